/- What the law SlotsPlays answers, for every body and all changes. Conditions: the values read as a body and as changes. -/
import Derived.Test.YtbfpmpomcaijcaaSlPlaysR
import Derived.Test.YtbfpmpomcaijcaaSlLarge
import Derived.Test.YtbfpmpomcaijcaaSlSame
namespace Go.Proofs.Ytbfpmpomcaijcaa
open Go.RowKit

def R3F (sv : Value) (i : Nat) (v : Value) (_ : World) : Prop :=
  match i with
  | 0 => v = sv
  | 2 => v = sv
  | _ => True
def P15F (sv lv kv ip fp bv av ev : Value) (i : Nat) (v : Value) (_ : World) : Prop :=
  match i with
  | 0 => v = sv
  | 1 => v = lv
  | 2 => v = kv
  | 3 => v = ip
  | 4 => v = fp
  | 5 => v = bv
  | 9 => v = av
  | 10 => v = ev
  | 12 => v = av
  | 13 => v = ev
  | _ => True
def P17F (sv lv kv ip fp av bv ev : Value) (i : Nat) (v : Value) (_ : World) : Prop :=
  match i with
  | 0 => v = sv
  | 1 => v = lv
  | 2 => v = kv
  | 3 => v = ip
  | 4 => v = fp
  | 5 => v = av
  | 6 => v = bv
  | 10 => v = ev
  | 12 => v = ev
  | _ => True
def P18F (sv lv kv ip fp av gp bv ev : Value) (i : Nat) (v : Value) (_ : World) : Prop :=
  match i with
  | 0 => v = sv
  | 1 => v = lv
  | 2 => v = kv
  | 3 => v = ip
  | 4 => v = fp
  | 5 => v = av
  | 6 => v = lv
  | 7 => v = kv
  | 8 => v = ip
  | 9 => v = gp
  | 10 => v = bv
  | 14 => v = ev
  | 16 => v = ev
  | _ => True
def P20F (sv lv kv ip fp av ev : Value) (i : Nat) (v : Value) (_ : World) : Prop :=
  match i with
  | 0 => v = sv
  | 1 => v = lv
  | 2 => v = kv
  | 3 => v = ip
  | 4 => v = fp
  | 5 => v = av
  | 9 => v = ev
  | 11 => v = ev
  | _ => True
def P38F (cv zv : Value) (i : Nat) (v : Value) (_ : World) : Prop :=
  match i with
  | 0 => v = cv
  | 1 => v = zv
  | _ => True

set_option maxHeartbeats 12800000 in
set_option maxRecDepth 20000 in
theorem slotsPlays_any (A : SlApi) (fv dv v : Value) (s : Sl.S) (l : List SOp) (w : World) (h : SlAt w fv dv s) (hO : SOpsIn w v l) (hz : ∀ i, i < l.length → (l.getD i default).bs.length ≤ 140737488351232) :
    Calls Try.prog 5 #[SlV s.kind s.next fv dv, v] w fun e w' => e = .returned (.bool true) ∧ Below w.heap.size w w' := by
  have HA := Lib.hid A
  have HKN : Hid (s.kind < 256 ∧ s.next < 4294967296) := ⟨h.kind, h.next⟩
  have HOP := Lib.hid hO
  have HZ := Lib.hid hz
  obtain ⟨p, cap, rfl, hcap, -, -⟩ := hO.form
  obtain ⟨p1, c1, p2, c2, rfl, rfl⟩ := slv_slices h
  obtain ⟨W, hW⟩ : ∃ W, W = w.alloc (sobj s.kind s.next (.slice p1 s.full.length c1) (.slice p2 s.data.length c2)) := ⟨_, rfl⟩
  have hb0 : Below w.heap.size w W := by rw [hW]; exact below_new _ _
  have hrow := sblk w s.kind s.next (.slice p1 s.full.length c1) (.slice p2 s.data.length c2)
  rw [← hW] at hrow
  obtain ⟨q0, q1, q2, q3⟩ := four_cell hrow
  unfold sobj at hW
  have HB0 := Lib.hid hb0
  have HROW := Lib.hid hrow
  have HS := Lib.hid (h.below hb0)
  have HLG := Lib.hid (large_any _ _ s W HS.out)
  clear hb0 hrow h hO hz
  go_enter Try.func5, Try.ntmps5
  go_upto_region 1 with (fail)
  rw [← hW]
  clear hW
  obtain ⟨P, hP⟩ : ∃ P, P = w.heap.size := ⟨_, rfl⟩
  rw [← hP] at q0 q1 q2 q3 HROW ⊢
  clear hP
  go_wp2_with fail
  refine HLG.out.mono ?_
  rintro e w2 ⟨r, rfl, hsm, hb2⟩
  have HB2 := Lib.hid hb2
  clear HLG hb2 q0 q1 q2 q3
  have HBW : Hid (Below w.heap.size w w2) := HB0.out.trans (HB2.out.mono HB0.out.size)
  have HKNO := Lib.hid (fun w => known_any HA.out w)
  cases r with
  | true =>
    clear hsm
    go_wp2_with fail
    refine (HKNO.out _).mono ?_
    rintro e wk ⟨rfl, hbk⟩
    have HBK := Lib.hid ((HBW.out).trans (hbk.mono (HBW.out).size))
    clear hbk
    go_wp2_with fail
    go_ret
    exact ⟨rfl, HBK.out⟩
  | false =>
    have HSM := Lib.hid (hsm rfl)
    clear hsm
    by_cases h150 : 150 < l.length
    · have hd : decide (150 < (l.length : Int)) = true := by simp; omega
      go_wp2_with fail
      refine (HKNO.out _).mono ?_
      rintro e wk ⟨rfl, hbk⟩
      have HBK := Lib.hid ((HBW.out).trans (hbk.mono (HBW.out).size))
      clear hbk
      go_wp2_with fail
      go_ret
      exact ⟨rfl, HBK.out⟩
    · have hd : decide (150 < (l.length : Int)) = false := by simp; omega
      have HP3 : Hid (w2.heap[P]? = some (.cells #[.int .u8 (s.kind : Int), .int .u32 (s.next : Int), .slice p1 s.full.length c1, .slice p2 s.data.length c2] 26 (0, 0))) := by
        show w2.heap[P]? = _
        rw [HB2.out.block P (lt_of_block HROW.out)]; exact HROW.out
      have HS3 := Lib.hid (HS.out.below HB2.out)
      go_upto_region 3 with (fail)
      clear hd
      refine Ord.walk (R3F (SlV s.kind s.next (.slice p1 s.full.length c1) (.slice p2 s.data.length c2))) (fun D xs w => ∃ F1 G1 F2 G2 v1 v2 X Y, CpR s F1 G1 F2 G2 v1 v2 X Y w2 D xs w) (fun _ _ => True)
        (by kernel_rfl) (by kernel_rfl) ?fr3 ?hfr3 (fun _ _ _ _ _ h => h) (fun xs => CpR.first s w2 xs) ?he3 ?hend3
      case hfr3 =>
        intro xs
        simp only [Ord.fill, Act.put, List.setIfInBounds_toArray, List.set_cons_zero, List.set_cons_succ]
        rfl
      case he3 =>
        refine Ord.each_cons (fun D xs w2 hD hC hP hR hA K hK => ?_) ?_
        · -- 0
          clear hA
          obtain ⟨F1, G1, F2, G2, v1, v2, X, Y, hR⟩ := hR
          have hp := hR.bel.block P (lt_of_block HP3.out)
          rw [HP3.out] at hp
          obtain ⟨x0, x1, x2, x3⟩ := four_cell hp
          go_simp
          exact hK _ _ ⟨_, rfl, trivial, ⟨_, _, _, _, _, _, _, _, hR.skip _ (by decide)⟩, rfl⟩
        refine Ord.each_cons (fun D xs w2 hD hC hP hR hA K hK => ?_) ?_
        · -- 1
          have q0 := Ord.ahead_get _ hA 0 (by decide)
          simp only [R3F] at q0
          simp only [q0] at hK
          clear hA
          obtain ⟨F1, G1, F2, G2, v1, v2, X, Y, hR⟩ := hR
          have h6 : D 6 = false := by
            cases h : D 6
            · rfl
            · have := Ord.closed_at hC 6 1 (by kernel_rfl) h
              rw [hD] at this; cases this
          go_simp
          refine (refCopy_any _ _ s w2 (HS3.out.below hR.bel) HSM.out.took HSM.out.full).mono ?_
          rintro e w' ⟨f, d, vs, rfl, hs, hb⟩
          exact hK _ _ ⟨_, rfl, trivial, ⟨_, _, _, _, _, _, _, _, hR.call1 h6 rfl hs hb⟩, trivial⟩
        refine Ord.each_cons (fun D xs w2 hD hC hP hR hA K hK => ?_) ?_
        · -- 2
          clear hA
          obtain ⟨F1, G1, F2, G2, v1, v2, X, Y, hR⟩ := hR
          have hp := hR.bel.block P (lt_of_block HP3.out)
          rw [HP3.out] at hp
          obtain ⟨x0, x1, x2, x3⟩ := four_cell hp
          go_simp
          exact hK _ _ ⟨_, rfl, trivial, ⟨_, _, _, _, _, _, _, _, hR.skip _ (by decide)⟩, rfl⟩
        refine Ord.each_cons (fun D xs w2 hD hC hP hR hA K hK => ?_) ?_
        · -- 3
          have q2 := Ord.ahead_get _ hA 2 (by decide)
          simp only [R3F] at q2
          simp only [q2] at hK
          clear hA
          obtain ⟨F1, G1, F2, G2, v1, v2, X, Y, hR⟩ := hR
          have h7 : D 7 = false := by
            cases h : D 7
            · rfl
            · have := Ord.closed_at hC 7 3 (by kernel_rfl) h
              rw [hD] at this; cases this
          go_simp
          refine (refCopy_any _ _ s w2 (HS3.out.below hR.bel) HSM.out.took HSM.out.full).mono ?_
          rintro e w' ⟨f, d, vs, rfl, hs, hb⟩
          exact hK _ _ ⟨_, rfl, trivial, ⟨_, _, _, _, _, _, _, _, hR.call3 h7 rfl hs hb⟩, trivial⟩
        refine Ord.each_cons (fun D xs w2 hD hC hP hR hA K hK => ?_) ?_
        · -- 4
          clear hA
          obtain ⟨F1, G1, F2, G2, v1, v2, X, Y, hR⟩ := hR
          have h6 : D 6 = false := by
            cases h : D 6
            · rfl
            · have := Ord.closed_at hC 6 4 (by kernel_rfl) h
              rw [hD] at this; cases this
          go_simp
          exact hK _ _ ⟨_, rfl, trivial, ⟨_, _, _, _, _, _, _, _, hR.mk4 h6 rfl (below_new _ _) (heap_alloc_last _ _)⟩, trivial⟩
        refine Ord.each_cons (fun D xs w2 hD hC hP hR hA K hK => ?_) ?_
        · -- 5
          clear hA
          obtain ⟨F1, G1, F2, G2, v1, v2, X, Y, hR⟩ := hR
          have h7 : D 7 = false := by
            cases h : D 7
            · rfl
            · have := Ord.closed_at hC 7 5 (by kernel_rfl) h
              rw [hD] at this; cases this
          go_simp
          exact hK _ _ ⟨_, rfl, trivial, ⟨_, _, _, _, _, _, _, _, hR.mk5 h7 rfl (below_new _ _) (heap_alloc_last _ _)⟩, trivial⟩
        refine Ord.each_cons (fun D xs w2 hD hC hP hR hA K hK => ?_) ?_
        · -- 6
          clear hA
          obtain ⟨F1, G1, F2, G2, v1, v2, X, Y, hR⟩ := hR
          have h4 : D 4 = true := hP { on := 4, ground := .data } (by simp) rfl
          have h1 : D 1 = true := hP { on := 1, ground := .data } (by simp) rfl
          obtain ⟨pa, ca, pb, cb, rfl, rfl⟩ := slv_slices (hR.a1 h1).2.at
          have e1 := (hR.a1 h1).1
          have e4 := (hR.b4 h4).1
          simp only [e1, e4] at hK
          obtain ⟨x0, x1, x2, x3⟩ := four_cell (hR.x0 h4 hD)
          obtain ⟨f0, f1, f2, f3⟩ : _ ∧ _ ∧ _ ∧ _ := ⟨four_free (hR.x0 h4 hD) 0, four_free (hR.x0 h4 hD) 1, four_free (hR.x0 h4 hD) 2, four_free (hR.x0 h4 hD) 3⟩
          have hst := hR.st6 (u := undef) h4 hD
          go_simp
          exact hK _ _ ⟨_, rfl, trivial, ⟨_, _, _, _, _, _, _, _, hst⟩, trivial⟩
        refine Ord.each_cons (fun D xs w2 hD hC hP hR hA K hK => ?_) ?_
        · -- 7
          clear hA
          obtain ⟨F1, G1, F2, G2, v1, v2, X, Y, hR⟩ := hR
          have h5 : D 5 = true := hP { on := 5, ground := .data } (by simp) rfl
          have h3 : D 3 = true := hP { on := 3, ground := .data } (by simp) rfl
          obtain ⟨pa, ca, pb, cb, rfl, rfl⟩ := slv_slices (hR.a3 h3).2.at
          have e3 := (hR.a3 h3).1
          have e5 := (hR.b5 h5).1
          simp only [e3, e5] at hK
          obtain ⟨x0, x1, x2, x3⟩ := four_cell (hR.y0 h5 hD)
          obtain ⟨f0, f1, f2, f3⟩ : _ ∧ _ ∧ _ ∧ _ := ⟨four_free (hR.y0 h5 hD) 0, four_free (hR.y0 h5 hD) 1, four_free (hR.y0 h5 hD) 2, four_free (hR.y0 h5 hD) 3⟩
          have hst := hR.st7 (u := undef) h5 hD
          go_simp
          exact hK _ _ ⟨_, rfl, trivial, ⟨_, _, _, _, _, _, _, _, hst⟩, trivial⟩
        exact Ord.each_nil
      case hend3 =>
        intro D3 xs3 w4 hR3 hF3
        obtain ⟨F1, G1, F2, G2, v1, v2, X, Y, hR3⟩ := hR3
        have e4 := (hR3.b4 (hF3 4 (by decide)).1)
        have e5 := (hR3.b5 (hF3 5 (by decide)).1)
        have hx := hR3.x1 (hF3 6 (by decide)).1
        have hy := hR3.y1 (hF3 7 (by decide)).1
        have hne := hR3.ne (Or.inl (hF3 4 (by decide)).1) (Or.inl (hF3 5 (by decide)).1)
        have ha := (hR3.a1 (hF3 1 (by decide)).1).2
        have hc := (hR3.a3 (hF3 3 (by decide)).1).2
        have HPS0 : Hid (PlS w w4 X Y s F1 G1 F2 G2) := ⟨HBW.out.trans (hR3.bel.mono HBW.out.size), hx, hy, ha.dep hx hy, hc.dep hx hy, Nat.le_trans HBW.out.size e4.2.1, Nat.le_trans HBW.out.size e5.2.1, hne, HSM.out⟩
        have e4a := e4.1
        have e5a := e5.1
        clear e4 e5 hx hy hne ha hc hR3 hF3
        generalize xs3 4 = z4 at *
        generalize xs3 5 = z5 at *
        subst e4a e5a
        generalize xs3 0 = z0 at *
        generalize xs3 1 = z1 at *
        generalize xs3 2 = z2 at *
        generalize xs3 3 = z3 at *
        generalize xs3 6 = z6 at *
        generalize xs3 7 = z7 at *
        go_wp2_with fail
        go_loopw [7] (fun iv wr => ∃ (k : Nat) (S : Sl.S) (fx dx fy dy : Value), k ≤ l.length ∧ iv = .int .i64 k ∧ PlS w wr X Y S fx dx fy dy) (fun iv _ => l.length - (intOf iv).toNat)
        case atStart => exact ⟨0, s, F1, G1, F2, G2, Nat.zero_le _, rfl, HPS0.out⟩
        case round =>
          obtain ⟨k, S, fx, dx, fy, dy, hk, rfl, hs⟩ := hrel
          have HSK := Lib.hid hs
          obtain ⟨px1, cx1, px2, cx2, rfl, rfl⟩ := slv_slices hs.ex.at
          obtain ⟨py1, cy1, py2, cy2, rfl, rfl⟩ := slv_slices hs.ey.at
          clear hs
          have hl150 : l.length ≤ 150 := by omega
          by_cases hlt : k < l.length
          · obtain ⟨b, off, rfl, hops⟩ : ∃ b off, p = some ⟨b, off, none⟩ ∧ ∀ i, i < l.length → SOpAt w b (off + i * 3) (l.getD i default) := by
              obtain ⟨p', cap', hv, -, -, hx⟩ := HOP.out.form
              simp only [Value.slice.injEq] at hv
              obtain ⟨rfl, -, rfl⟩ := hv
              exact hx (by omega)
            have ho := hops k hlt
            have hzk := HZ.out k hlt
            generalize l.getD k default = o at ho hzk
            have hbw : b < w.heap.size := block_lt_of_cell ho.c0
            have y0 := (HSK.out.bel.cell (p := ⟨b, off + k * 3, none⟩) hbw).trans ho.c0
            have y1 := (HSK.out.bel.cell (p := ⟨b, off + k * 3 + 1, none⟩) hbw).trans ho.c1
            have y2 := (HSK.out.bel.cell (p := ⟨b, off + k * 3 + 2, none⟩) hbw).trans ho.c2
            have hbt := (ho.bts (by omega)).below HSK.out.bel
            have hok0 := ho.k0
            have hok1 := ho.k1
            obtain ⟨kd, at_, bv, bs⟩ := o
            simp only at y0 y1 y2 hbt hzk hok0 hok1
            obtain ⟨pb, cb, hpb, hcb, -, -⟩ := hbt.form
            subst hpb
            have HBT := Lib.hid hbt
            have HY0 := Lib.hid y0
            have HY1 := Lib.hid y1
            have HY2 := Lib.hid y2
            have HK0 := Lib.hid hok0
            have HK1 := Lib.hid hok1
            clear ho hops hbt hzk hok0 hok1 hcb hbw
            have hk0 : (0 : Int) ≤ (k : Int) := by omega
            have hki : (k : Int) < (l.length : Int) := by omega
            by_cases h1000 : 1000 < bs.length
            · have hd : decide (1000 < (bs.length : Int)) = true := by simp; omega
              go_wp2_with fail
              go_roundw
              case rel => exact ⟨k + 1, S, _, _, _, _, by omega, by go_num, HSK.out⟩
              case measure => simp [intOf]; omega
            · have hd : decide (1000 < (bs.length : Int)) = false := by simp; omega
              have HBL : Hid (bs.length ≤ 1000) := by show _ ≤ _; omega
              obtain ⟨q0, q1, q2, q3⟩ := four_cell HSK.out.bx
              go_wp2_with fail
              refine (refCopy_any _ _ S wr HSK.out.ex.at HSK.out.small.took HSK.out.small.full).mono ?_
              rintro e w7 ⟨fw, dw, vsw, rfl, hsw, hb7⟩
              obtain ⟨pw1, cw1, pw2, cw2, rfl, rfl⟩ := slv_slices hsw.at
              obtain ⟨w8, hw8⟩ : ∃ w8, w8 = w7.alloc (.cells #[.int .u8 (S.kind : Int), .int .u32 (S.next : Int), .slice pw1 S.full.length cw1, .slice pw2 S.data.length cw2] 26) := ⟨_, rfl⟩
              have hb8 : Below w7.heap.size w7 w8 := by rw [hw8]; exact below_new _ _
              have hv8 : Hs w8 w7.heap.size S (.slice pw1 S.full.length cw1) (.slice pw2 S.data.length cw2) := by unfold Hs; rw [hw8]; exact heap_alloc_last _ _
              obtain ⟨V, hV⟩ : ∃ V, V = w7.heap.size := ⟨_, rfl⟩
              rw [← hV] at hv8
              have hb := hb7.trans (hb8.mono hb7.size)
              have HA8 : Hid (PlA X Y V b (off + k * 3) S (.slice px1 S.full.length cx1) (.slice px2 S.data.length cx2) (.slice py1 S.full.length cy1) (.slice py2 S.data.length cy2) (.slice pw1 S.full.length cw1) (.slice pw2 S.data.length cw2) ⟨kd, at_, .slice pb bs.length cb, bs⟩ w8) :=
                ⟨HSK.out.bx.below hb, HSK.out.by_.below hb, hv8, HSK.out.ex.at.below hb, HSK.out.ey.at.below hb, (hsw.below hb8).at, (hb.cell (block_lt_of_cell HY0.out)).trans HY0.out, (hb.cell (block_lt_of_cell HY1.out)).trans HY1.out, (hb.cell (block_lt_of_cell HY2.out)).trans HY2.out, HBT.out.below hb⟩
              have HB8 := Lib.hid hb
              clear hsw hb7 hb8 hv8 hb y0 y1 y2 q0 q1 q2 q3 hd h1000
              go_upto_region 9 with (fail)
              rw [← hw8, ← hV]
              clear hw8 hV
              have HOE := Lib.hid (own_empty w8 w8.heap.size 0 #[] (Nat.le_refl _) (Nat.zero_le _) rfl)
              have HWE : Hid (Below w8.heap.size w8 (w8.alloc (.cells #[] 5))) := (Below.refl _ _).alloc (Nat.le_refl _) _
              have y2 : (w8.alloc (.cells #[] 5)).cell? ⟨b, off + k * 3 + 2, none⟩ = some (.slice pb bs.length cb) := (HA8.out.later HWE.out).c2
              iterate 19 go_step
              refine wpList_append_Own rfl (.tmp 49) (.tmp 54) rfl w8.heap.size _ [] rfl HOE.out _ bs rfl (HA8.out.later HWE.out).bts (by simp; have := HBL.out; omega) HWE.out.size ?_
              intro v9 w9 hO9 hb9 _
              rw [List.nil_append] at hO9
              obtain ⟨p9, c9, rfl⟩ := own_slv hO9
              have HO9 := Lib.hid hO9
              have HW9 := Lib.hid (HWE.out.trans hb9)
              have HA9 := Lib.hid (HA8.out.later HW9.out)
              clear hO9 hb9 y2
              obtain ⟨q0, q1, q2, q3⟩ := four_cell HA9.out.x
              go_upto_region 11 with (fail)
              obtain ⟨w10, hw10⟩ : ∃ w10, w10 = w9.alloc (.cells #[.int .u8 (S.kind : Int), .int .u32 (S.next : Int), .slice px1 S.full.length cx1, .slice px2 S.data.length cx2] 26) := ⟨_, rfl⟩
              have hb10 : Below w9.heap.size w9 w10 := by rw [hw10]; exact below_new _ _
              have hc10 : Hs w10 w9.heap.size S (.slice px1 S.full.length cx1) (.slice px2 S.data.length cx2) := by unfold Hs; rw [hw10]; exact heap_alloc_last _ _
              obtain ⟨C, hC⟩ : ∃ C, C = w9.heap.size := ⟨_, rfl⟩
              rw [← hC] at hc10
              rw [← hw10, ← hC]
              clear q0 q1 q2 q3
              have HA10 := Lib.hid (HA9.out.later hb10)
              obtain ⟨q0, q1, q2, q3⟩ := four_cell HA10.out.y
              have HC9 : Hid (w9.heap.size ≤ C) := by show _ ≤ C; omega
              have HB10 := Lib.hid hb10
              have HC10 := Lib.hid hc10
              clear hb10 hc10 hw10 hC
              go_upto_region 12 with (fail)
              obtain ⟨w11, hw11⟩ : ∃ w11, w11 = w10.alloc (.cells #[.int .u8 (S.kind : Int), .int .u32 (S.next : Int), .slice py1 S.full.length cy1, .slice py2 S.data.length cy2] 26) := ⟨_, rfl⟩
              have hb11 : Below w10.heap.size w10 w11 := by rw [hw11]; exact below_new _ _
              have hz11 : Hs w11 w10.heap.size S (.slice py1 S.full.length cy1) (.slice py2 S.data.length cy2) := by unfold Hs; rw [hw11]; exact heap_alloc_last _ _
              obtain ⟨Z, hZ⟩ : ∃ Z, Z = w10.heap.size := ⟨_, rfl⟩
              rw [← hZ] at hz11
              rw [← hw11, ← hZ]
              have HCZ : Hid (C ≠ Z) := by show C ≠ Z; have := HC10.out.lt; omega
              have hb := HB10.out.trans (hb11.mono HB10.out.size)
              have HB911 := Lib.hid hb
              have HB811 := Lib.hid (HW9.out.trans (hb.mono HW9.out.size))
              have HA11 := Lib.hid (HA9.out.later hb)
              have HC11 := Lib.hid (HC10.out.below hb11)
              have HZ11 := Lib.hid hz11
              have HO11 := Lib.hid (HO9.out.below hb)
              have HZ9 : Hid (w9.heap.size ≤ Z) := by show _ ≤ Z; have := HB10.out.size; omega
              have HGB : Hid (∃ gb, (gb = X ∨ w8.heap.size ≤ gb) ∧ gb < w9.heap.size ∧ (0 < bs.length → p9 = some ⟨gb, 0, none⟩)) := by
                by_cases h0 : 0 < bs.length
                · obtain ⟨g, c, e1, e2, e3, -⟩ := own_some HO9.out h0
                  simp only [Value.slice.injEq] at e1
                  exact ⟨g, Or.inr e2, e3, fun _ => e1.1⟩
                · exact ⟨X, Or.inl rfl, HA9.out.x.lt, fun h => absurd h h0⟩
              obtain ⟨gb, hgb1, hgb2, hgb3⟩ := HGB.out
              have HG1 := Lib.hid hgb1
              have HG2 := Lib.hid hgb2
              have HG3 := Lib.hid hgb3
              have HM11 : Hid (PlM w8 X Y C Z gb S (.slice px1 S.full.length cx1) (.slice px2 S.data.length cx2) (.slice py1 S.full.length cy1) (.slice py2 S.data.length cy2) w11) := by
                have h1 := HB8.out.trans (HB811.out.mono HB8.out.size)
                have h2 : ∀ k, (k = X ∨ k = Y ∨ k = gb) → (k = X ∨ k = Y) ∨ wr.heap.size ≤ k := fun k hk => by
                  rcases hk with e | e | e
                  · exact Or.inl (Or.inl e)
                  · exact Or.inl (Or.inr e)
                  · rcases HG1.out with e2 | e2
                    · exact Or.inl (Or.inl (e.trans e2))
                    · have := HB8.out.size; exact Or.inr (by omega)
                exact ⟨HB811.out, HC11.out, HZ11.out, HSK.out.ex.more h1 h2, HSK.out.ey.more h1 h2⟩
              clear hgb1 hgb2 hgb3 HGB hb hb11 hz11 hw11 hZ q0 q1 q2 q3 HOE HWE HC10 HA10 HB10 HO9 HY0 HY1 HY2 HBT HA9
              have y0 : w11.cell? ⟨b, off + k * 3, none⟩ = some (.int .i64 kd) := HA11.out.c0
              go_upto_region 13 with (fail)
              have HLT := Lib.hid hlt
              have HGW : Hid (0 < bs.length → w8.heap.size ≤ gb) := fun h0 => by
                obtain ⟨g, c, e1, e2, -⟩ := own_some HO11.out h0
                rw [HG3.out h0] at e1
                simp only [Value.slice.injEq, Option.some.injEq, Addr.mk.injEq] at e1
                rw [e1.1.1]; exact e2
              have HCX : Hid (C ≠ X ∧ C ≠ Y ∧ Z ≠ X ∧ Z ≠ Y) := by
                have e1 := HA8.out.x.lt; have e2 := HA8.out.y.lt; have e3 := HW9.out.size; have e4 := HC9.out; have e5 := HZ9.out
                refine ⟨?_, ?_, ?_, ?_⟩ <;> omega
              clear hk0 hki
              by_cases h0 : kd = 0
              · as_aux_lemma =>
                  have hq0 : (kd == 0) = true := by simp [h0]
                  clear h0
                  have HSMT := Lib.hid (Sl.small_insR S bs)
                  have HCP : Hid (Calls Try.prog 19 #[SlV S.kind S.next (.slice px1 S.full.length cx1) (.slice px2 S.data.length cx2), .slice p9 bs.length c9] w11 _) := pInsert_far _ _ _ S bs w11 HA11.out.ax HSK.out.small HO11.out.bts HBL.out
                  have HRC := Lib.hid (fun w' (hb : Below w8.heap.size w8 w') => refInsert_far _ _ _ S bs w' (HA8.out.later hb).ay HSK.out.small (HA8.out.later hb).bts HBL.out)
                  obtain ⟨rr, hrr⟩ : ∃ rr, rr = Sl.insR S bs := ⟨_, rfl⟩
                  rw [← hrr] at HSMT HCP HRC
                  clear hrr
                  obtain ⟨T, tt, er⟩ := rr
                  simp only at HSMT HCP HRC
                  have HST : Hid (Sl.Small T) := HSMT.out
                  obtain ⟨x0, x1, x2, x3⟩ := four_cell HA11.out.x
                  go_wp2_with fail
                  refine HCP.out.mono ?_
                  rintro e w12 ⟨F, G, rfl, hf12, hb12⟩
                  obtain ⟨pf, cf, pd, cd, rfl, rfl⟩ := slv_slices hf12.at
                  have hc12 := HC11.out.below hb12
                  obtain ⟨q0, q1, q2, q3⟩ := four_cell hc12
                  obtain ⟨f0, f1, f2, f3⟩ : _ ∧ _ ∧ _ ∧ _ := ⟨four_free hc12 0, four_free hc12 1, four_free hc12 2, four_free hc12 3⟩
                  obtain ⟨hc13, hg13⟩ := set4all (x := .int .u8 (T.kind : Int)) (y := .int .u32 (T.next : Int)) (z := .slice pf T.full.length cf) (u := .slice pd T.data.length cd) hc12
                  obtain ⟨w13, hw13⟩ : ∃ w13, w13 = ((((w12.setCell ⟨C, 0, none⟩ (.int .u8 (T.kind : Int))).setCell ⟨C, 1, none⟩ (.int .u32 (T.next : Int))).setCell ⟨C, 2, none⟩ (.slice pf T.full.length cf)).setCell ⟨C, 3, none⟩ (.slice pd T.data.length cd)) := ⟨_, rfl⟩
                  rw [← hw13] at hc13 hg13
                  have hb812 := HB811.out.trans (hb12.mono HB811.out.size)
                  have HB13 : Hid (Below w8.heap.size w8 w13) := below_grown hb812 hg13 hb812.size (Nat.le_trans HW9.out.size HC9.out)
                  have HF13 : Hid (SlFar w11.heap.size w13 (.slice pf T.full.length cf) (.slice pd T.data.length cd) T) := hf12.grown hg13 HC11.out.lt
                  have HC13 : Hid (Hs w13 C T (.slice pf T.full.length cf) (.slice pd T.data.length cd)) := hc13
                  have HZ13 : Hid (Hs w13 Z S (.slice py1 S.full.length cy1) (.slice py2 S.data.length cy2)) := (HZ11.out.below hb12).grown hg13 (Ne.symm HCZ.out)
                  have hO12 := HO11.out.below hb12
                  have HO13 : Hid (Own w8.heap.size w13 (.slice p9 bs.length c9) bs) := hO12.grown hg13 (row_ne_blk hO12.own hc12 (by decide))
                  have HSZ13 : Hid (w11.heap.size ≤ w13.heap.size) := Nat.le_trans hb12.size hg13.size
                  clear hc12 hc13 hg13 hb812 hO12 hf12 hb12 HCP HSMT x0 x1 x2 x3
                  go_upto_region 15 with (fail)
                  rw [← hw13]
                  clear hw13 q0 q1 q2 q3 f0 f1 f2 f3 hq0
                  have HAL : Hid (∀ w', w13.grownBy w' (some Z) → PlA X Y V b (off + k * 3) S (.slice px1 S.full.length cx1) (.slice px2 S.data.length cx2) (.slice py1 S.full.length cy1) (.slice py2 S.data.length cy2) (.slice pw1 S.full.length cw1) (.slice pw2 S.data.length cw2) ⟨kd, at_, .slice pb bs.length cb, bs⟩ w') := fun w' hg => HA8.out.later (below_grown HB13.out hg (HB13.out).size (Nat.le_trans HW9.out.size HZ9.out))
                  have HCL : Hid (∀ w', Below w13.heap.size w13 w' → _) := fun w' hb => HRC.out w' (HB13.out.trans (hb.mono HB13.out.size))
                  refine Ord.walk (P15F (SlV S.kind S.next (.slice py1 S.full.length cy1) (.slice py2 S.data.length cy2)) (.slice (some ⟨b, off, none⟩) l.length cap) (.int .i64 (k : Int)) (.pointer (some ⟨b, off + k * 3, none⟩)) (.pointer (some ⟨b, off + k * 3 + 2, none⟩)) (.slice pb bs.length cb) (.int .i64 (tt : Int)) (.int .i64 (er : Int))) (fun D xs w => ∃ F G, CsR 6 7 8 11 Z (fun F G => .tuple #[SlV T.kind T.next F G, .int .i64 (tt : Int), .int .i64 (er : Int)]) S T (.slice py1 S.full.length cy1) (.slice py2 S.data.length cy2) F G w13 D xs w) (fun _ _ => True)
                    (by kernel_rfl) (by kernel_rfl) ?fr15 ?hfr15 (fun _ _ _ _ _ h => h) (fun xs => CsR.first xs HZ13.out) ?he15 ?hend15
                  case hfr15 =>
                    intro xs
                    simp only [Ord.fill, Act.put, List.setIfInBounds_toArray, List.set_cons_zero, List.set_cons_succ]
                    rfl
                  case he15 =>
                    refine Ord.each_cons (fun D xs wz hD hC hP hR hA K hK => ?_) ?_
                    · -- 0
                      clear hA
                      obtain ⟨F, G, hR⟩ := hR
                      obtain ⟨x0, x1, x2, x3⟩ := four_cell (HAL.out wz hR.gr).y
                      go_simp
                      exact hK _ _ ⟨_, rfl, trivial, ⟨_, _, hR.skip _ (by decide)⟩, rfl⟩
                    refine Ord.each_cons (fun D xs wz hD hC hP hR hA K hK => ?_) ?_
                    · -- 1
                      clear hA
                      obtain ⟨F, G, hR⟩ := hR
                      go_simp
                      exact hK _ _ ⟨_, rfl, trivial, ⟨_, _, hR.skip _ (by decide)⟩, rfl⟩
                    refine Ord.each_cons (fun D xs wz hD hC hP hR hA K hK => ?_) ?_
                    · -- 2
                      clear hA
                      obtain ⟨F, G, hR⟩ := hR
                      go_simp
                      exact hK _ _ ⟨_, rfl, trivial, ⟨_, _, hR.skip _ (by decide)⟩, rfl⟩
                    refine Ord.each_cons (fun D xs wz hD hC hP hR hA K hK => ?_) ?_
                    · -- 3
                      have q1 := Ord.ahead_get _ hA 1 (by decide)
                      simp only [P15F] at q1
                      have q2 := Ord.ahead_get _ hA 2 (by decide)
                      simp only [P15F] at q2
                      simp only [q1, q2] at hK
                      clear hA
                      obtain ⟨F, G, hR⟩ := hR
                      have k1 : (0 : Int) ≤ (k : Int) := by omega
                      have k2 : (k : Int) < (l.length : Int) := by have := HLT.out; omega
                      go_simp
                      exact hK _ _ ⟨_, rfl, trivial, ⟨_, _, hR.skip _ (by decide)⟩, rfl⟩
                    refine Ord.each_cons (fun D xs wz hD hC hP hR hA K hK => ?_) ?_
                    · -- 4
                      have q3 := Ord.ahead_get _ hA 3 (by decide)
                      simp only [P15F] at q3
                      simp only [q3] at hK
                      clear hA
                      obtain ⟨F, G, hR⟩ := hR
                      go_simp
                      exact hK _ _ ⟨_, rfl, trivial, ⟨_, _, hR.skip _ (by decide)⟩, rfl⟩
                    refine Ord.each_cons (fun D xs wz hD hC hP hR hA K hK => ?_) ?_
                    · -- 5
                      have q4 := Ord.ahead_get _ hA 4 (by decide)
                      simp only [P15F] at q4
                      simp only [q4] at hK
                      clear hA
                      obtain ⟨F, G, hR⟩ := hR
                      have y2 : wz.cell? ⟨b, off + k * 3 + 2, none⟩ = some (.slice pb bs.length cb) := (HAL.out wz hR.gr).c2
                      go_simp
                      exact hK _ _ ⟨_, rfl, trivial, ⟨_, _, hR.skip _ (by decide)⟩, rfl⟩
                    refine Ord.each_cons (fun D xs wz hD hC hP hR hA K hK => ?_) ?_
                    · -- 6
                      have q0 := Ord.ahead_get _ hA 0 (by decide)
                      simp only [P15F] at q0
                      have q5 := Ord.ahead_get _ hA 5 (by decide)
                      simp only [P15F] at q5
                      simp only [q0, q5] at hK
                      clear hA
                      obtain ⟨F, G, hR⟩ := hR
                      have h7 : D 7 = false := by
                        cases h : D 7
                        · rfl
                        · have := Ord.closed_at hC 7 6 (by kernel_rfl) h
                          rw [hD] at this; cases this
                      have h8 : D 8 = false := by
                        cases h : D 8
                        · rfl
                        · have := Ord.closed_at hC 8 7 (by kernel_rfl) h
                          rw [h7] at this; cases this
                      have h11 : D 11 = false := by
                        cases h : D 11
                        · rfl
                        · have := Ord.closed_at hC 11 8 (by kernel_rfl) h
                          rw [h8] at this; cases this
                      go_simp
                      refine (HCL.out wz (hR.pre h11)).mono ?_
                      rintro e w' ⟨f, d, rfl, hf, hb⟩
                      exact hK _ _ ⟨_, rfl, trivial, ⟨_, _, hR.call (by decide) h7 h8 h11 rfl hf hb⟩, trivial⟩
                    refine Ord.each_cons (fun D xs wz hD hC hP hR hA K hK => ?_) ?_
                    · -- 7
                      clear hA
                      obtain ⟨F, G, hR⟩ := hR
                      have h6 : D 6 = true := hP { on := 6, ground := .data } (by simp) rfl
                      have e6 : xs 6 = .tuple #[SlV T.kind T.next F G, .int .i64 (tt : Int), .int .i64 (er : Int)] := (hR.a1 h6).1
                      simp only [e6] at hK
                      go_simp
                      exact hK _ _ ⟨_, rfl, trivial, ⟨_, _, hR.move (by decide) rfl⟩, trivial⟩
                    refine Ord.each_cons (fun D xs wz hD hC hP hR hA K hK => ?_) ?_
                    · -- 8
                      clear hA
                      obtain ⟨F, G, hR⟩ := hR
                      have h7 : D 7 = true := hP { on := 7, ground := .data } (by simp) rfl
                      have e7 : xs 7 = .tuple #[SlV T.kind T.next F G, .int .i64 (tt : Int), .int .i64 (er : Int)] := hR.a2 h7
                      simp only [e7] at hK
                      go_simp
                      exact hK _ _ ⟨_, rfl, trivial, ⟨_, _, hR.ext (by decide) rfl⟩, trivial⟩
                    refine Ord.each_cons (fun D xs wz hD hC hP hR hA K hK => ?_) ?_
                    · -- 9
                      clear hA
                      obtain ⟨F, G, hR⟩ := hR
                      have h7 : D 7 = true := hP { on := 7, ground := .data } (by simp) rfl
                      have e7 : xs 7 = .tuple #[SlV T.kind T.next F G, .int .i64 (tt : Int), .int .i64 (er : Int)] := hR.a2 h7
                      simp only [e7] at hK
                      go_simp
                      exact hK _ _ ⟨_, rfl, trivial, ⟨_, _, hR.skip _ (by decide)⟩, rfl⟩
                    refine Ord.each_cons (fun D xs wz hD hC hP hR hA K hK => ?_) ?_
                    · -- 10
                      clear hA
                      obtain ⟨F, G, hR⟩ := hR
                      have h7 : D 7 = true := hP { on := 7, ground := .data } (by simp) rfl
                      have e7 : xs 7 = .tuple #[SlV T.kind T.next F G, .int .i64 (tt : Int), .int .i64 (er : Int)] := hR.a2 h7
                      simp only [e7] at hK
                      go_simp
                      exact hK _ _ ⟨_, rfl, trivial, ⟨_, _, hR.skip _ (by decide)⟩, rfl⟩
                    refine Ord.each_cons (fun D xs wz hD hC hP hR hA K hK => ?_) ?_
                    · -- 11
                      clear hA
                      obtain ⟨F, G, hR⟩ := hR
                      have h8 : D 8 = true := hP { on := 8, ground := .data } (by simp) rfl
                      have h7 : D 7 = true := Ord.closed_at hC 8 7 (by kernel_rfl) h8
                      have h6 : D 6 = true := Ord.closed_at hC 7 6 (by kernel_rfl) h7
                      obtain ⟨pf, cf, pd, cd, rfl, rfl⟩ := slv_slices (hR.a1 h6).2.at
                      have e8 := hR.a3 h8
                      simp only [e8] at hK
                      obtain ⟨x0, x1, x2, x3⟩ := four_cell (hR.z0 hD)
                      obtain ⟨f0, f1, f2, f3⟩ : _ ∧ _ ∧ _ ∧ _ := ⟨four_free (hR.z0 hD) 0, four_free (hR.z0 hD) 1, four_free (hR.z0 hD) 2, four_free (hR.z0 hD) 3⟩
                      have hst := hR.store (u := undef) (by decide) hD
                      go_simp
                      exact hK _ _ ⟨_, rfl, trivial, ⟨_, _, hst⟩, trivial⟩
                    refine Ord.each_cons (fun D xs wz hD hC hP hR hA K hK => ?_) ?_
                    · -- 12
                      have q9 := Ord.ahead_get _ hA 9 (by decide)
                      simp only [P15F] at q9
                      simp only [q9] at hK
                      clear hA
                      obtain ⟨F, G, hR⟩ := hR
                      go_simp
                      exact hK _ _ ⟨_, rfl, trivial, ⟨_, _, hR.skip _ (by decide)⟩, rfl⟩
                    refine Ord.each_cons (fun D xs wz hD hC hP hR hA K hK => ?_) ?_
                    · -- 13
                      have q10 := Ord.ahead_get _ hA 10 (by decide)
                      simp only [P15F] at q10
                      simp only [q10] at hK
                      clear hA
                      obtain ⟨F, G, hR⟩ := hR
                      go_simp
                      exact hK _ _ ⟨_, rfl, trivial, ⟨_, _, hR.skip _ (by decide)⟩, rfl⟩
                    exact Ord.each_nil
                  case hend15 =>
                    intro D15 xs15 wn15 hR15 hF15
                    obtain ⟨F15, G15, hR15⟩ := hR15
                    have hg15 := hR15.gr
                    have hz15 := hR15.z1 (hF15 11 (by decide)).1
                    have hf15 := (hR15.a1 (hF15 6 (by decide)).1).2
                    have t15_12 : xs15 12 = .int .i64 (tt : Int) := (hF15 12 (by decide)).2
                    have t15_13 : xs15 13 = .int .i64 (er : Int) := (hF15 13 (by decide)).2
                    clear hR15 hF15
                    generalize xs15 0 = zz15_0 at *
                    generalize xs15 1 = zz15_1 at *
                    generalize xs15 2 = zz15_2 at *
                    generalize xs15 3 = zz15_3 at *
                    generalize xs15 4 = zz15_4 at *
                    generalize xs15 5 = zz15_5 at *
                    generalize xs15 6 = zz15_6 at *
                    generalize xs15 7 = zz15_7 at *
                    generalize xs15 8 = zz15_8 at *
                    generalize xs15 9 = zz15_9 at *
                    generalize xs15 10 = zz15_10 at *
                    generalize xs15 11 = zz15_11 at *
                    generalize xs15 12 = zz15_12 at *
                    generalize xs15 13 = zz15_13 at *
                    subst t15_12
                    subst t15_13
                    have HM : Hid (PlM w8 X Y C Z gb T (.slice pf T.full.length cf) (.slice pd T.data.length cd) F15 G15 wn15) := by
                      have h1 : ∀ k, (k = X ∨ k = Y ∨ k = gb) → k < w11.heap.size := fun k hk => by
                        have e1 := HA11.out.x.lt; have e2 := HA11.out.y.lt; have e3 := HG2.out; have e4 := HB911.out.size
                        rcases hk with e | e | e <;> omega
                      exact ⟨below_grown HB13.out hg15 HB13.out.size (Nat.le_trans HW9.out.size HZ9.out), HC13.out.grown hg15 HCZ.out, hz15, (HF13.out.grown hg15 HZ11.out.lt).dep h1, hf15.dep (fun k hk => Nat.lt_of_lt_of_le (h1 k hk) HSZ13.out)⟩
                    have hO15 := HO13.out.grown hg15 (row_ne_blk HO13.out.own HZ13.out (by decide))
                    have HRW : Hid (0 < bs.length → Row wn15 gb bs.length) := fun h0 => by
                      obtain ⟨g, c, e1, -, -, -, -, e2⟩ := own_some hO15 h0
                      rw [HG3.out h0] at e1
                      simp only [Value.slice.injEq, Option.some.injEq, Addr.mk.injEq] at e1
                      rw [e1.1.1]; exact e2
                    clear hg15 hz15 hf15 hO15 HF13 HC13 HZ13 HO13 HB13 HSZ13 HA11 HC11 HZ11 HO11 HM11 HAL HCL
                    obtain ⟨pc1, cc1, pc2, cc2, hfc, hdc⟩ := slv_slices HM.out.ec.at
                    obtain ⟨pz1, cz1, pz2, cz2, hfz, hdz⟩ := slv_slices HM.out.ez.at
                    rw [hfc, hdc, hfz, hdz] at HM
                    clear hfc hdc hfz hdz
                    go_wp2_with fail
                    go_loopw [21] (fun iv wq => ∃ q : Nat, q ≤ bs.length ∧ iv = .int .i64 q ∧ PlM w8 X Y C Z gb T (.slice pc1 T.full.length cc1) (.slice pc2 T.data.length cc2) (.slice pz1 T.full.length cz1) (.slice pz2 T.data.length cz2) wq ∧ (0 < bs.length → Row wq gb bs.length)) (fun iv _ => bs.length - (intOf iv).toNat)
                    case atStart => exact ⟨0, Nat.zero_le _, rfl, HM.out, HRW.out⟩
                    case round =>
                      obtain ⟨q, hq, rfl, hm, hrw⟩ := hrel
                      have HMq := Lib.hid hm
                      have HRq := Lib.hid hrw
                      clear hm hrw
                      have hbl := HBL.out
                      by_cases hqt : q < bs.length
                      · obtain rfl : p9 = some ⟨gb, 0, none⟩ := HG3.out (by omega)
                        have HR := Lib.hid (HRq.out (by omega))
                        obtain ⟨b0, hb0, hcell⟩ := HR.out.cell q hqt
                        have hfree := HR.out.free q
                        have HQT := Lib.hid hqt
                        have HX8 : Hid ((b0 + 1) % 256 < 256) := Nat.mod_lt _ (by decide)
                        have hk4 : (0 : Int) ≤ (q : Int) := by omega
                        have hk5 : (q : Int) < (bs.length : Int) := by omega
                        have hk6 : 0 + q = q := Nat.zero_add q
                        have HXO : Hid (((b0 : Int) + 1) % 256 = (((b0 + 1) % 256 : Nat) : Int)) := by show _ = _; omega
                        have HWR : Hid (IntKind.u8.wrap ((b0 : Int) + 1) = (((b0 + 1) % 256 : Nat) : Int)) := by
                          show _ = _
                          rw [show IntKind.u8.wrap ((b0 : Int) + 1) = ((b0 : Int) + 1) % 256 by simp [IntKind.wrap, IntKind.bits, IntKind.signed]]
                          omega
                        have hwr := HWR.out
                        go_wp2_with fail
                        rw [HXO.out]
                        go_roundw
                        case rel => exact ⟨q + 1, by have := HQT.out; omega, by go_num, HMq.out.set HR.out (HGW.out (by have := HQT.out; omega)) q _, fun _ => HR.out.set q _ HX8.out⟩
                        case measure => simp [intOf]; omega
                      · obtain rfl : q = bs.length := by omega
                        have HAq := Lib.hid (HA8.out.later HMq.out.bel)
                        obtain ⟨a0, a1, a2, a3⟩ := four_cell HMq.out.c
                        obtain ⟨d0, d1, d2, d3⟩ := four_cell HMq.out.z
                        have hat : ((tt : Int) != (tt : Int)) = false := by simp
                        have her : ((er : Int) != (er : Int)) = false := by simp
                        go_wp2_with fail
                        refine (refSame_any _ _ _ _ T T wr HMq.out.ec.at HMq.out.ez.at ⟨HST.out.full, HST.out.data⟩).mono ?_
                        rintro e wa ⟨rfl, hba⟩
                        rw [Sl.same_true rfl]
                        have HAa := Lib.hid (HAq.out.later hba)
                        have HMa := Lib.hid (HMq.out.later hba)
                        clear hba a0 a1 a2 a3 d0 d1 d2 d3 hat her
                        obtain ⟨a0, a1, a2, a3⟩ := four_cell HAa.out.x
                        obtain ⟨d0, d1, d2, d3⟩ := four_cell HAa.out.v
                        go_wp2_with fail
                        refine (refSame_any _ _ _ _ S S wa HAa.out.ax HAa.out.av ⟨HSK.out.small.full, HSK.out.small.data⟩).mono ?_
                        rintro e wb ⟨rfl, hbb⟩
                        rw [Sl.same_true rfl]
                        have HAb := Lib.hid (HAa.out.later hbb)
                        have HMb := Lib.hid (HMa.out.later hbb)
                        have HBrb := Lib.hid (HB8.out.trans (HMb.out.bel.mono HB8.out.size))
                        have HBwb := Lib.hid (HSK.out.bel.trans (HBrb.out.mono HSK.out.bel.size))
                        clear hbb a0 a1 a2 a3 d0 d1 d2 d3
                        have hl150 : l.length ≤ 150 := by omega
                        by_cases hez : er = 0
                        · have hq0 : ((er : Int) == 0) = true := by rw [hez]; rfl
                          go_wp2_with fail
                          go_upto_region 38 with (fail)
                          clear hq0
                          refine Ord.walk (P38F (SlV T.kind T.next (.slice pc1 T.full.length cc1) (.slice pc2 T.data.length cc2)) (SlV T.kind T.next (.slice pz1 T.full.length cz1) (.slice pz2 T.data.length cz2))) (MvR w.heap.size X Y S T (.slice px1 S.full.length cx1) (.slice px2 S.data.length cx2) (.slice py1 S.full.length cy1) (.slice py2 S.data.length cy2) (.slice pc1 T.full.length cc1) (.slice pc2 T.data.length cc2) (.slice pz1 T.full.length cz1) (.slice pz2 T.data.length cz2) wb) (fun _ _ => True)
                            (by kernel_rfl) (by kernel_rfl) ?fr38a ?hfr38a (fun _ _ _ _ _ h => h) (fun xs => MvR.first xs HBwb.out.size HSK.out.hx HSK.out.hy HSK.out.ne HAb.out.x HAb.out.y) ?he38a ?hend38a
                          case hfr38a =>
                            intro xs
                            simp only [Ord.fill, Act.put, List.setIfInBounds_toArray, List.set_cons_zero, List.set_cons_succ]
                            rfl
                          case he38a =>
                            refine Ord.each_cons (fun D xs wz hD hC hP hR hA K hK => ?_) ?_
                            · -- 0
                              clear hA
                              have hc := (hR.same C HCX.out.1 HCX.out.2.1 HMb.out.c.lt).trans HMb.out.c
                              obtain ⟨x0, x1, x2, x3⟩ := four_cell hc
                              go_simp
                              exact hK _ _ ⟨_, rfl, trivial, hR.skip _ (by decide), rfl⟩
                            refine Ord.each_cons (fun D xs wz hD hC hP hR hA K hK => ?_) ?_
                            · -- 1
                              clear hA
                              have hc := (hR.same Z HCX.out.2.2.1 HCX.out.2.2.2 HMb.out.z.lt).trans HMb.out.z
                              obtain ⟨x0, x1, x2, x3⟩ := four_cell hc
                              go_simp
                              exact hK _ _ ⟨_, rfl, trivial, hR.skip _ (by decide), rfl⟩
                            refine Ord.each_cons (fun D xs wz hD hC hP hR hA K hK => ?_) ?_
                            · -- 2
                              have q0 := Ord.ahead_get _ hA 0 (by decide)
                              simp only [P38F] at q0
                              simp only [q0] at hK
                              clear hA
                              obtain ⟨x0, x1, x2, x3⟩ := four_cell (hR.x0 hD)
                              obtain ⟨f0, f1, f2, f3⟩ : _ ∧ _ ∧ _ ∧ _ := ⟨four_free (hR.x0 hD) 0, four_free (hR.x0 hD) 1, four_free (hR.x0 hD) 2, four_free (hR.x0 hD) 3⟩
                              have hst := hR.op2 (u := undef) hD
                              go_simp
                              exact hK _ _ ⟨_, rfl, trivial, hst, trivial⟩
                            refine Ord.each_cons (fun D xs wz hD hC hP hR hA K hK => ?_) ?_
                            · -- 3
                              have q1 := Ord.ahead_get _ hA 1 (by decide)
                              simp only [P38F] at q1
                              simp only [q1] at hK
                              clear hA
                              obtain ⟨x0, x1, x2, x3⟩ := four_cell (hR.y0 hD)
                              obtain ⟨f0, f1, f2, f3⟩ : _ ∧ _ ∧ _ ∧ _ := ⟨four_free (hR.y0 hD) 0, four_free (hR.y0 hD) 1, four_free (hR.y0 hD) 2, four_free (hR.y0 hD) 3⟩
                              have hst := hR.op3 (u := undef) hD
                              go_simp
                              exact hK _ _ ⟨_, rfl, trivial, hst, trivial⟩
                            exact Ord.each_nil
                          case hend38a =>
                            intro D38 xs38 we hR38 hF38
                            have HPS2 := Lib.hid (hR38.done (hF38 2 (by decide)).1 (hF38 3 (by decide)).1 HMb.out HBwb.out HST.out)
                            clear hR38 hF38
                            generalize xs38 0 = e0 at *
                            generalize xs38 1 = e1 at *
                            generalize xs38 2 = e2 at *
                            generalize xs38 3 = e3 at *
                            go_wp2_with fail
                            go_roundw
                            case rel => exact ⟨k + 1, T, _, _, _, _, by have := HLT.out; omega, by go_num, HPS2.out⟩
                            case measure => have := HLT.out; simp [intOf]; omega
                        · have hq0 : ((er : Int) == 0) = false := by simp; omega
                          go_wp2_with fail
                          go_roundw
                          case rel => exact ⟨k + 1, S, _, _, _, _, by have := HLT.out; omega, by go_num, ⟨HBwb.out, HAb.out.x, HAb.out.y, HSK.out.ex.below HBrb.out, HSK.out.ey.below HBrb.out, HSK.out.hx, HSK.out.hy, HSK.out.ne, HSK.out.small⟩⟩
                          case measure => have := HLT.out; simp [intOf]; omega
              · by_cases h1 : kd = 1
                · as_aux_lemma =>
                    have hq0 : (kd == 0) = false := by simpa using h0
                    have hq1 : (kd == 1) = true := by simp [h1]
                    clear h0 h1
                    have HSMT := Lib.hid (Sl.small_putR S at_ bs)
                    have HCQ := Lib.hid (fun w' (hb : Below w11.heap.size w11 w') => pPut_far _ _ _ S at_ bs w' (HA11.out.later hb).ax HSK.out.small (HO11.out.below hb).bts HBL.out)
                    have HRC := Lib.hid (fun w' (hb : Below w8.heap.size w8 w') => refPut_far _ _ _ S at_ bs w' (HA8.out.later hb).ay HSK.out.small (HA8.out.later hb).bts HBL.out)
                    obtain ⟨rr, hrr⟩ : ∃ rr, rr = Sl.putR S at_ bs := ⟨_, rfl⟩
                    rw [← hrr] at HSMT HCQ HRC
                    clear hrr
                    obtain ⟨T, er⟩ := rr
                    simp only at HSMT HCQ HRC
                    have HST : Hid (Sl.Small T) := HSMT.out
                    clear HSMT
                    have HAL : Hid (∀ w', w11.grownBy w' (some C) → PlA X Y V b (off + k * 3) S (.slice px1 S.full.length cx1) (.slice px2 S.data.length cx2) (.slice py1 S.full.length cy1) (.slice py2 S.data.length cy2) (.slice pw1 S.full.length cw1) (.slice pw2 S.data.length cw2) ⟨kd, at_, .slice pb bs.length cb, bs⟩ w') := fun w' hg => HA8.out.later (below_grown HB811.out hg (HB811.out).size (Nat.le_trans HW9.out.size HC9.out))
                    have HCL : Hid (∀ w', Below w11.heap.size w11 w' → _) := fun w' hb => HCQ.out w' hb
                    go_upto_region 17 with (fail)
                    clear hq0 hq1
                    refine Ord.walk (P17F (SlV S.kind S.next (.slice px1 S.full.length cx1) (.slice px2 S.data.length cx2)) (.slice (some ⟨b, off, none⟩) l.length cap) (.int .i64 (k : Int)) (.pointer (some ⟨b, off + k * 3, none⟩)) (.pointer (some ⟨b, off + k * 3 + 1, none⟩)) (.int .i64 at_) (.slice p9 bs.length c9) (.int .i64 (er : Int))) (fun D xs w => ∃ F G, CsR 7 8 9 11 C (fun F G => .tuple #[SlV T.kind T.next F G, .int .i64 (er : Int)]) S T (.slice px1 S.full.length cx1) (.slice px2 S.data.length cx2) F G w11 D xs w) (fun _ _ => True)
                      (by kernel_rfl) (by kernel_rfl) ?fr17 ?hfr17 (fun _ _ _ _ _ h => h) (fun xs => CsR.first xs HC11.out) ?he17 ?hend17
                    case hfr17 =>
                      intro xs
                      simp only [Ord.fill, Act.put, List.setIfInBounds_toArray, List.set_cons_zero, List.set_cons_succ]
                      rfl
                    case he17 =>
                      refine Ord.each_cons (fun D xs wz hD hC hP hR hA K hK => ?_) ?_
                      · -- 0
                        clear hA
                        obtain ⟨F, G, hR⟩ := hR
                        obtain ⟨x0, x1, x2, x3⟩ := four_cell (HAL.out wz hR.gr).x
                        go_simp
                        exact hK _ _ ⟨_, rfl, trivial, ⟨_, _, hR.skip _ (by decide)⟩, rfl⟩
                      refine Ord.each_cons (fun D xs wz hD hC hP hR hA K hK => ?_) ?_
                      · -- 1
                        clear hA
                        obtain ⟨F, G, hR⟩ := hR
                        go_simp
                        exact hK _ _ ⟨_, rfl, trivial, ⟨_, _, hR.skip _ (by decide)⟩, rfl⟩
                      refine Ord.each_cons (fun D xs wz hD hC hP hR hA K hK => ?_) ?_
                      · -- 2
                        clear hA
                        obtain ⟨F, G, hR⟩ := hR
                        go_simp
                        exact hK _ _ ⟨_, rfl, trivial, ⟨_, _, hR.skip _ (by decide)⟩, rfl⟩
                      refine Ord.each_cons (fun D xs wz hD hC hP hR hA K hK => ?_) ?_
                      · -- 3
                        have q1 := Ord.ahead_get _ hA 1 (by decide)
                        simp only [P17F] at q1
                        have q2 := Ord.ahead_get _ hA 2 (by decide)
                        simp only [P17F] at q2
                        simp only [q1, q2] at hK
                        clear hA
                        obtain ⟨F, G, hR⟩ := hR
                        have k1 : (0 : Int) ≤ (k : Int) := by omega
                        have k2 : (k : Int) < (l.length : Int) := by have := HLT.out; omega
                        go_simp
                        exact hK _ _ ⟨_, rfl, trivial, ⟨_, _, hR.skip _ (by decide)⟩, rfl⟩
                      refine Ord.each_cons (fun D xs wz hD hC hP hR hA K hK => ?_) ?_
                      · -- 4
                        have q3 := Ord.ahead_get _ hA 3 (by decide)
                        simp only [P17F] at q3
                        simp only [q3] at hK
                        clear hA
                        obtain ⟨F, G, hR⟩ := hR
                        go_simp
                        exact hK _ _ ⟨_, rfl, trivial, ⟨_, _, hR.skip _ (by decide)⟩, rfl⟩
                      refine Ord.each_cons (fun D xs wz hD hC hP hR hA K hK => ?_) ?_
                      · -- 5
                        have q4 := Ord.ahead_get _ hA 4 (by decide)
                        simp only [P17F] at q4
                        simp only [q4] at hK
                        clear hA
                        obtain ⟨F, G, hR⟩ := hR
                        have y1 : wz.cell? ⟨b, off + k * 3 + 1, none⟩ = some (.int .i64 at_) := (HAL.out wz hR.gr).c1
                        go_simp
                        exact hK _ _ ⟨_, rfl, trivial, ⟨_, _, hR.skip _ (by decide)⟩, rfl⟩
                      refine Ord.each_cons (fun D xs wz hD hC hP hR hA K hK => ?_) ?_
                      · -- 6
                        clear hA
                        obtain ⟨F, G, hR⟩ := hR
                        go_simp
                        exact hK _ _ ⟨_, rfl, trivial, ⟨_, _, hR.skip _ (by decide)⟩, rfl⟩
                      refine Ord.each_cons (fun D xs wz hD hC hP hR hA K hK => ?_) ?_
                      · -- 7
                        have q0 := Ord.ahead_get _ hA 0 (by decide)
                        simp only [P17F] at q0
                        have q5 := Ord.ahead_get _ hA 5 (by decide)
                        simp only [P17F] at q5
                        have q6 := Ord.ahead_get _ hA 6 (by decide)
                        simp only [P17F] at q6
                        simp only [q0, q5, q6] at hK
                        clear hA
                        obtain ⟨F, G, hR⟩ := hR
                        have h8 : D 8 = false := by
                          cases h : D 8
                          · rfl
                          · have := Ord.closed_at hC 8 7 (by kernel_rfl) h
                            rw [hD] at this; cases this
                        have h9 : D 9 = false := by
                          cases h : D 9
                          · rfl
                          · have := Ord.closed_at hC 9 8 (by kernel_rfl) h
                            rw [h8] at this; cases this
                        have h11 : D 11 = false := by
                          cases h : D 11
                          · rfl
                          · have := Ord.closed_at hC 11 9 (by kernel_rfl) h
                            rw [h9] at this; cases this
                        go_simp
                        refine (HCL.out wz (hR.pre h11)).mono ?_
                        rintro e w' ⟨f, d, rfl, hf, hb⟩
                        exact hK _ _ ⟨_, rfl, trivial, ⟨_, _, hR.call (by decide) h8 h9 h11 rfl hf hb⟩, trivial⟩
                      refine Ord.each_cons (fun D xs wz hD hC hP hR hA K hK => ?_) ?_
                      · -- 8
                        clear hA
                        obtain ⟨F, G, hR⟩ := hR
                        have h7 : D 7 = true := hP { on := 7, ground := .data } (by simp) rfl
                        have e7 : xs 7 = .tuple #[SlV T.kind T.next F G, .int .i64 (er : Int)] := (hR.a1 h7).1
                        simp only [e7] at hK
                        go_simp
                        exact hK _ _ ⟨_, rfl, trivial, ⟨_, _, hR.move (by decide) rfl⟩, trivial⟩
                      refine Ord.each_cons (fun D xs wz hD hC hP hR hA K hK => ?_) ?_
                      · -- 9
                        clear hA
                        obtain ⟨F, G, hR⟩ := hR
                        have h8 : D 8 = true := hP { on := 8, ground := .data } (by simp) rfl
                        have e8 : xs 8 = .tuple #[SlV T.kind T.next F G, .int .i64 (er : Int)] := hR.a2 h8
                        simp only [e8] at hK
                        go_simp
                        exact hK _ _ ⟨_, rfl, trivial, ⟨_, _, hR.ext (by decide) rfl⟩, trivial⟩
                      refine Ord.each_cons (fun D xs wz hD hC hP hR hA K hK => ?_) ?_
                      · -- 10
                        clear hA
                        obtain ⟨F, G, hR⟩ := hR
                        have h8 : D 8 = true := hP { on := 8, ground := .data } (by simp) rfl
                        have e8 : xs 8 = .tuple #[SlV T.kind T.next F G, .int .i64 (er : Int)] := hR.a2 h8
                        simp only [e8] at hK
                        go_simp
                        exact hK _ _ ⟨_, rfl, trivial, ⟨_, _, hR.skip _ (by decide)⟩, rfl⟩
                      refine Ord.each_cons (fun D xs wz hD hC hP hR hA K hK => ?_) ?_
                      · -- 11
                        clear hA
                        obtain ⟨F, G, hR⟩ := hR
                        have h9 : D 9 = true := hP { on := 9, ground := .data } (by simp) rfl
                        have h8 : D 8 = true := Ord.closed_at hC 9 8 (by kernel_rfl) h9
                        have h7 : D 7 = true := Ord.closed_at hC 8 7 (by kernel_rfl) h8
                        obtain ⟨pf, cf, pd, cd, rfl, rfl⟩ := slv_slices (hR.a1 h7).2.at
                        have e9 := hR.a3 h9
                        simp only [e9] at hK
                        obtain ⟨x0, x1, x2, x3⟩ := four_cell (hR.z0 hD)
                        obtain ⟨f0, f1, f2, f3⟩ : _ ∧ _ ∧ _ ∧ _ := ⟨four_free (hR.z0 hD) 0, four_free (hR.z0 hD) 1, four_free (hR.z0 hD) 2, four_free (hR.z0 hD) 3⟩
                        have hst := hR.store (u := undef) (by decide) hD
                        go_simp
                        exact hK _ _ ⟨_, rfl, trivial, ⟨_, _, hst⟩, trivial⟩
                      refine Ord.each_cons (fun D xs wz hD hC hP hR hA K hK => ?_) ?_
                      · -- 12
                        have q10 := Ord.ahead_get _ hA 10 (by decide)
                        simp only [P17F] at q10
                        simp only [q10] at hK
                        clear hA
                        obtain ⟨F, G, hR⟩ := hR
                        go_simp
                        exact hK _ _ ⟨_, rfl, trivial, ⟨_, _, hR.skip _ (by decide)⟩, rfl⟩
                      exact Ord.each_nil
                    case hend17 =>
                      intro D17 xs17 wn17 hR17 hF17
                      obtain ⟨F17, G17, hR17⟩ := hR17
                      have hg17 := hR17.gr
                      have hz17 := hR17.z1 (hF17 11 (by decide)).1
                      have hf17 := (hR17.a1 (hF17 7 (by decide)).1).2
                      have t17_12 : xs17 12 = .int .i64 (er : Int) := (hF17 12 (by decide)).2
                      clear hR17 hF17
                      generalize xs17 0 = zz17_0 at *
                      generalize xs17 1 = zz17_1 at *
                      generalize xs17 2 = zz17_2 at *
                      generalize xs17 3 = zz17_3 at *
                      generalize xs17 4 = zz17_4 at *
                      generalize xs17 5 = zz17_5 at *
                      generalize xs17 6 = zz17_6 at *
                      generalize xs17 7 = zz17_7 at *
                      generalize xs17 8 = zz17_8 at *
                      generalize xs17 9 = zz17_9 at *
                      generalize xs17 10 = zz17_10 at *
                      generalize xs17 11 = zz17_11 at *
                      generalize xs17 12 = zz17_12 at *
                      subst t17_12
                      have HB13 : Hid (Below w8.heap.size w8 wn17) := below_grown HB811.out hg17 HB811.out.size (Nat.le_trans HW9.out.size HC9.out)
                      have HF13 : Hid (SlFar w11.heap.size wn17 F17 G17 T) := hf17
                      have HC13 : Hid (Hs wn17 C T F17 G17) := hz17
                      have HZ13 : Hid (Hs wn17 Z S (.slice py1 S.full.length cy1) (.slice py2 S.data.length cy2)) := HZ11.out.grown hg17 (Ne.symm HCZ.out)
                      have HO13 : Hid (Own w8.heap.size wn17 (.slice p9 bs.length c9) bs) := HO11.out.grown hg17 (row_ne_blk HO11.out.own HC11.out (by decide))
                      have HSZ13 : Hid (w11.heap.size ≤ wn17.heap.size) := hg17.size
                      clear hg17 hz17 hf17 HAL HCL
                      have HAL : Hid (∀ w', wn17.grownBy w' (some Z) → PlA X Y V b (off + k * 3) S (.slice px1 S.full.length cx1) (.slice px2 S.data.length cx2) (.slice py1 S.full.length cy1) (.slice py2 S.data.length cy2) (.slice pw1 S.full.length cw1) (.slice pw2 S.data.length cw2) ⟨kd, at_, .slice pb bs.length cb, bs⟩ w') := fun w' hg => HA8.out.later (below_grown HB13.out hg (HB13.out).size (Nat.le_trans HW9.out.size HZ9.out))
                      have HCL : Hid (∀ w', Below wn17.heap.size wn17 w' → _) := fun w' hb => HRC.out w' (HB13.out.trans (hb.mono HB13.out.size))
                      go_upto_region 18 with (fail)
                      refine Ord.walk (P18F (SlV S.kind S.next (.slice py1 S.full.length cy1) (.slice py2 S.data.length cy2)) (.slice (some ⟨b, off, none⟩) l.length cap) (.int .i64 (k : Int)) (.pointer (some ⟨b, off + k * 3, none⟩)) (.pointer (some ⟨b, off + k * 3 + 1, none⟩)) (.int .i64 at_) (.pointer (some ⟨b, off + k * 3 + 2, none⟩)) (.slice pb bs.length cb) (.int .i64 (er : Int))) (fun D xs w => ∃ F G, CsR 11 12 13 15 Z (fun F G => .tuple #[SlV T.kind T.next F G, .int .i64 (er : Int)]) S T (.slice py1 S.full.length cy1) (.slice py2 S.data.length cy2) F G wn17 D xs w) (fun _ _ => True)
                        (by kernel_rfl) (by kernel_rfl) ?fr18 ?hfr18 (fun _ _ _ _ _ h => h) (fun xs => CsR.first xs HZ13.out) ?he18 ?hend18
                      case hfr18 =>
                        intro xs
                        simp only [Ord.fill, Act.put, List.setIfInBounds_toArray, List.set_cons_zero, List.set_cons_succ]
                        rfl
                      case he18 =>
                        refine Ord.each_cons (fun D xs wz hD hC hP hR hA K hK => ?_) ?_
                        · -- 0
                          clear hA
                          obtain ⟨F, G, hR⟩ := hR
                          obtain ⟨x0, x1, x2, x3⟩ := four_cell (HAL.out wz hR.gr).y
                          go_simp
                          exact hK _ _ ⟨_, rfl, trivial, ⟨_, _, hR.skip _ (by decide)⟩, rfl⟩
                        refine Ord.each_cons (fun D xs wz hD hC hP hR hA K hK => ?_) ?_
                        · -- 1
                          clear hA
                          obtain ⟨F, G, hR⟩ := hR
                          go_simp
                          exact hK _ _ ⟨_, rfl, trivial, ⟨_, _, hR.skip _ (by decide)⟩, rfl⟩
                        refine Ord.each_cons (fun D xs wz hD hC hP hR hA K hK => ?_) ?_
                        · -- 2
                          clear hA
                          obtain ⟨F, G, hR⟩ := hR
                          go_simp
                          exact hK _ _ ⟨_, rfl, trivial, ⟨_, _, hR.skip _ (by decide)⟩, rfl⟩
                        refine Ord.each_cons (fun D xs wz hD hC hP hR hA K hK => ?_) ?_
                        · -- 3
                          have q1 := Ord.ahead_get _ hA 1 (by decide)
                          simp only [P18F] at q1
                          have q2 := Ord.ahead_get _ hA 2 (by decide)
                          simp only [P18F] at q2
                          simp only [q1, q2] at hK
                          clear hA
                          obtain ⟨F, G, hR⟩ := hR
                          have k1 : (0 : Int) ≤ (k : Int) := by omega
                          have k2 : (k : Int) < (l.length : Int) := by have := HLT.out; omega
                          go_simp
                          exact hK _ _ ⟨_, rfl, trivial, ⟨_, _, hR.skip _ (by decide)⟩, rfl⟩
                        refine Ord.each_cons (fun D xs wz hD hC hP hR hA K hK => ?_) ?_
                        · -- 4
                          have q3 := Ord.ahead_get _ hA 3 (by decide)
                          simp only [P18F] at q3
                          simp only [q3] at hK
                          clear hA
                          obtain ⟨F, G, hR⟩ := hR
                          go_simp
                          exact hK _ _ ⟨_, rfl, trivial, ⟨_, _, hR.skip _ (by decide)⟩, rfl⟩
                        refine Ord.each_cons (fun D xs wz hD hC hP hR hA K hK => ?_) ?_
                        · -- 5
                          have q4 := Ord.ahead_get _ hA 4 (by decide)
                          simp only [P18F] at q4
                          simp only [q4] at hK
                          clear hA
                          obtain ⟨F, G, hR⟩ := hR
                          have y1 : wz.cell? ⟨b, off + k * 3 + 1, none⟩ = some (.int .i64 at_) := (HAL.out wz hR.gr).c1
                          go_simp
                          exact hK _ _ ⟨_, rfl, trivial, ⟨_, _, hR.skip _ (by decide)⟩, rfl⟩
                        refine Ord.each_cons (fun D xs wz hD hC hP hR hA K hK => ?_) ?_
                        · -- 6
                          clear hA
                          obtain ⟨F, G, hR⟩ := hR
                          go_simp
                          exact hK _ _ ⟨_, rfl, trivial, ⟨_, _, hR.skip _ (by decide)⟩, rfl⟩
                        refine Ord.each_cons (fun D xs wz hD hC hP hR hA K hK => ?_) ?_
                        · -- 7
                          clear hA
                          obtain ⟨F, G, hR⟩ := hR
                          go_simp
                          exact hK _ _ ⟨_, rfl, trivial, ⟨_, _, hR.skip _ (by decide)⟩, rfl⟩
                        refine Ord.each_cons (fun D xs wz hD hC hP hR hA K hK => ?_) ?_
                        · -- 8
                          have q6 := Ord.ahead_get _ hA 6 (by decide)
                          simp only [P18F] at q6
                          have q7 := Ord.ahead_get _ hA 7 (by decide)
                          simp only [P18F] at q7
                          simp only [q6, q7] at hK
                          clear hA
                          obtain ⟨F, G, hR⟩ := hR
                          have k1 : (0 : Int) ≤ (k : Int) := by omega
                          have k2 : (k : Int) < (l.length : Int) := by have := HLT.out; omega
                          go_simp
                          exact hK _ _ ⟨_, rfl, trivial, ⟨_, _, hR.skip _ (by decide)⟩, rfl⟩
                        refine Ord.each_cons (fun D xs wz hD hC hP hR hA K hK => ?_) ?_
                        · -- 9
                          have q8 := Ord.ahead_get _ hA 8 (by decide)
                          simp only [P18F] at q8
                          simp only [q8] at hK
                          clear hA
                          obtain ⟨F, G, hR⟩ := hR
                          go_simp
                          exact hK _ _ ⟨_, rfl, trivial, ⟨_, _, hR.skip _ (by decide)⟩, rfl⟩
                        refine Ord.each_cons (fun D xs wz hD hC hP hR hA K hK => ?_) ?_
                        · -- 10
                          have q9 := Ord.ahead_get _ hA 9 (by decide)
                          simp only [P18F] at q9
                          simp only [q9] at hK
                          clear hA
                          obtain ⟨F, G, hR⟩ := hR
                          have y2 : wz.cell? ⟨b, off + k * 3 + 2, none⟩ = some (.slice pb bs.length cb) := (HAL.out wz hR.gr).c2
                          go_simp
                          exact hK _ _ ⟨_, rfl, trivial, ⟨_, _, hR.skip _ (by decide)⟩, rfl⟩
                        refine Ord.each_cons (fun D xs wz hD hC hP hR hA K hK => ?_) ?_
                        · -- 11
                          have q0 := Ord.ahead_get _ hA 0 (by decide)
                          simp only [P18F] at q0
                          have q5 := Ord.ahead_get _ hA 5 (by decide)
                          simp only [P18F] at q5
                          have q10 := Ord.ahead_get _ hA 10 (by decide)
                          simp only [P18F] at q10
                          simp only [q0, q5, q10] at hK
                          clear hA
                          obtain ⟨F, G, hR⟩ := hR
                          have h12 : D 12 = false := by
                            cases h : D 12
                            · rfl
                            · have := Ord.closed_at hC 12 11 (by kernel_rfl) h
                              rw [hD] at this; cases this
                          have h13 : D 13 = false := by
                            cases h : D 13
                            · rfl
                            · have := Ord.closed_at hC 13 12 (by kernel_rfl) h
                              rw [h12] at this; cases this
                          have h15 : D 15 = false := by
                            cases h : D 15
                            · rfl
                            · have := Ord.closed_at hC 15 13 (by kernel_rfl) h
                              rw [h13] at this; cases this
                          go_simp
                          refine (HCL.out wz (hR.pre h15)).mono ?_
                          rintro e w' ⟨f, d, rfl, hf, hb⟩
                          exact hK _ _ ⟨_, rfl, trivial, ⟨_, _, hR.call (by decide) h12 h13 h15 rfl hf hb⟩, trivial⟩
                        refine Ord.each_cons (fun D xs wz hD hC hP hR hA K hK => ?_) ?_
                        · -- 12
                          clear hA
                          obtain ⟨F, G, hR⟩ := hR
                          have h11 : D 11 = true := hP { on := 11, ground := .data } (by simp) rfl
                          have e11 : xs 11 = .tuple #[SlV T.kind T.next F G, .int .i64 (er : Int)] := (hR.a1 h11).1
                          simp only [e11] at hK
                          go_simp
                          exact hK _ _ ⟨_, rfl, trivial, ⟨_, _, hR.move (by decide) rfl⟩, trivial⟩
                        refine Ord.each_cons (fun D xs wz hD hC hP hR hA K hK => ?_) ?_
                        · -- 13
                          clear hA
                          obtain ⟨F, G, hR⟩ := hR
                          have h12 : D 12 = true := hP { on := 12, ground := .data } (by simp) rfl
                          have e12 : xs 12 = .tuple #[SlV T.kind T.next F G, .int .i64 (er : Int)] := hR.a2 h12
                          simp only [e12] at hK
                          go_simp
                          exact hK _ _ ⟨_, rfl, trivial, ⟨_, _, hR.ext (by decide) rfl⟩, trivial⟩
                        refine Ord.each_cons (fun D xs wz hD hC hP hR hA K hK => ?_) ?_
                        · -- 14
                          clear hA
                          obtain ⟨F, G, hR⟩ := hR
                          have h12 : D 12 = true := hP { on := 12, ground := .data } (by simp) rfl
                          have e12 : xs 12 = .tuple #[SlV T.kind T.next F G, .int .i64 (er : Int)] := hR.a2 h12
                          simp only [e12] at hK
                          go_simp
                          exact hK _ _ ⟨_, rfl, trivial, ⟨_, _, hR.skip _ (by decide)⟩, rfl⟩
                        refine Ord.each_cons (fun D xs wz hD hC hP hR hA K hK => ?_) ?_
                        · -- 15
                          clear hA
                          obtain ⟨F, G, hR⟩ := hR
                          have h13 : D 13 = true := hP { on := 13, ground := .data } (by simp) rfl
                          have h12 : D 12 = true := Ord.closed_at hC 13 12 (by kernel_rfl) h13
                          have h11 : D 11 = true := Ord.closed_at hC 12 11 (by kernel_rfl) h12
                          obtain ⟨pf, cf, pd, cd, rfl, rfl⟩ := slv_slices (hR.a1 h11).2.at
                          have e13 := hR.a3 h13
                          simp only [e13] at hK
                          obtain ⟨x0, x1, x2, x3⟩ := four_cell (hR.z0 hD)
                          obtain ⟨f0, f1, f2, f3⟩ : _ ∧ _ ∧ _ ∧ _ := ⟨four_free (hR.z0 hD) 0, four_free (hR.z0 hD) 1, four_free (hR.z0 hD) 2, four_free (hR.z0 hD) 3⟩
                          have hst := hR.store (u := undef) (by decide) hD
                          go_simp
                          exact hK _ _ ⟨_, rfl, trivial, ⟨_, _, hst⟩, trivial⟩
                        refine Ord.each_cons (fun D xs wz hD hC hP hR hA K hK => ?_) ?_
                        · -- 16
                          have q14 := Ord.ahead_get _ hA 14 (by decide)
                          simp only [P18F] at q14
                          simp only [q14] at hK
                          clear hA
                          obtain ⟨F, G, hR⟩ := hR
                          go_simp
                          exact hK _ _ ⟨_, rfl, trivial, ⟨_, _, hR.skip _ (by decide)⟩, rfl⟩
                        exact Ord.each_nil
                      case hend18 =>
                        intro D18 xs18 wn18 hR18 hF18
                        obtain ⟨F18, G18, hR18⟩ := hR18
                        have hg18 := hR18.gr
                        have hz18 := hR18.z1 (hF18 15 (by decide)).1
                        have hf18 := (hR18.a1 (hF18 11 (by decide)).1).2
                        have t18_16 : xs18 16 = .int .i64 (er : Int) := (hF18 16 (by decide)).2
                        clear hR18 hF18
                        generalize xs18 0 = zz18_0 at *
                        generalize xs18 1 = zz18_1 at *
                        generalize xs18 2 = zz18_2 at *
                        generalize xs18 3 = zz18_3 at *
                        generalize xs18 4 = zz18_4 at *
                        generalize xs18 5 = zz18_5 at *
                        generalize xs18 6 = zz18_6 at *
                        generalize xs18 7 = zz18_7 at *
                        generalize xs18 8 = zz18_8 at *
                        generalize xs18 9 = zz18_9 at *
                        generalize xs18 10 = zz18_10 at *
                        generalize xs18 11 = zz18_11 at *
                        generalize xs18 12 = zz18_12 at *
                        generalize xs18 13 = zz18_13 at *
                        generalize xs18 14 = zz18_14 at *
                        generalize xs18 15 = zz18_15 at *
                        generalize xs18 16 = zz18_16 at *
                        subst t18_16
                        have HM : Hid (PlM w8 X Y C Z gb T F17 G17 F18 G18 wn18) := by
                          have h1 : ∀ k, (k = X ∨ k = Y ∨ k = gb) → k < w11.heap.size := fun k hk => by
                            have e1 := HA11.out.x.lt; have e2 := HA11.out.y.lt; have e3 := HG2.out; have e4 := HB911.out.size
                            rcases hk with e | e | e <;> omega
                          exact ⟨below_grown HB13.out hg18 HB13.out.size (Nat.le_trans HW9.out.size HZ9.out), HC13.out.grown hg18 HCZ.out, hz18, (HF13.out.grown hg18 HZ11.out.lt).dep h1, hf18.dep (fun k hk => Nat.lt_of_lt_of_le (h1 k hk) HSZ13.out)⟩
                        have hO18 := HO13.out.grown hg18 (row_ne_blk HO13.out.own HZ13.out (by decide))
                        have HRW : Hid (0 < bs.length → Row wn18 gb bs.length) := fun h0 => by
                          obtain ⟨g, c, e1, -, -, -, -, e2⟩ := own_some hO18 h0
                          rw [HG3.out h0] at e1
                          simp only [Value.slice.injEq, Option.some.injEq, Addr.mk.injEq] at e1
                          rw [e1.1.1]; exact e2
                        clear hg18 hz18 hf18 hO18 HF13 HC13 HZ13 HO13 HB13 HSZ13 HA11 HC11 HZ11 HO11 HM11 HAL HCL
                        obtain ⟨pc1, cc1, pc2, cc2, hfc, hdc⟩ := slv_slices HM.out.ec.at
                        obtain ⟨pz1, cz1, pz2, cz2, hfz, hdz⟩ := slv_slices HM.out.ez.at
                        rw [hfc, hdc, hfz, hdz] at HM
                        clear hfc hdc hfz hdz
                        go_wp2_with fail
                        go_loopw [21] (fun iv wq => ∃ q : Nat, q ≤ bs.length ∧ iv = .int .i64 q ∧ PlM w8 X Y C Z gb T (.slice pc1 T.full.length cc1) (.slice pc2 T.data.length cc2) (.slice pz1 T.full.length cz1) (.slice pz2 T.data.length cz2) wq ∧ (0 < bs.length → Row wq gb bs.length)) (fun iv _ => bs.length - (intOf iv).toNat)
                        case atStart => exact ⟨0, Nat.zero_le _, rfl, HM.out, HRW.out⟩
                        case round =>
                          obtain ⟨q, hq, rfl, hm, hrw⟩ := hrel
                          have HMq := Lib.hid hm
                          have HRq := Lib.hid hrw
                          clear hm hrw
                          have hbl := HBL.out
                          by_cases hqt : q < bs.length
                          · obtain rfl : p9 = some ⟨gb, 0, none⟩ := HG3.out (by omega)
                            have HR := Lib.hid (HRq.out (by omega))
                            obtain ⟨b0, hb0, hcell⟩ := HR.out.cell q hqt
                            have hfree := HR.out.free q
                            have HQT := Lib.hid hqt
                            have HX8 : Hid ((b0 + 1) % 256 < 256) := Nat.mod_lt _ (by decide)
                            have hk4 : (0 : Int) ≤ (q : Int) := by omega
                            have hk5 : (q : Int) < (bs.length : Int) := by omega
                            have hk6 : 0 + q = q := Nat.zero_add q
                            have HXO : Hid (((b0 : Int) + 1) % 256 = (((b0 + 1) % 256 : Nat) : Int)) := by show _ = _; omega
                            have HWR : Hid (IntKind.u8.wrap ((b0 : Int) + 1) = (((b0 + 1) % 256 : Nat) : Int)) := by
                              show _ = _
                              rw [show IntKind.u8.wrap ((b0 : Int) + 1) = ((b0 : Int) + 1) % 256 by simp [IntKind.wrap, IntKind.bits, IntKind.signed]]
                              omega
                            have hwr := HWR.out
                            go_wp2_with fail
                            rw [HXO.out]
                            go_roundw
                            case rel => exact ⟨q + 1, by have := HQT.out; omega, by go_num, HMq.out.set HR.out (HGW.out (by have := HQT.out; omega)) q _, fun _ => HR.out.set q _ HX8.out⟩
                            case measure => simp [intOf]; omega
                          · obtain rfl : q = bs.length := by omega
                            have HAq := Lib.hid (HA8.out.later HMq.out.bel)
                            obtain ⟨a0, a1, a2, a3⟩ := four_cell HMq.out.c
                            obtain ⟨d0, d1, d2, d3⟩ := four_cell HMq.out.z
                            have hat : ((0 : Int) != (0 : Int)) = false := by simp
                            have her : ((er : Int) != (er : Int)) = false := by simp
                            go_wp2_with fail
                            refine (refSame_any _ _ _ _ T T wr HMq.out.ec.at HMq.out.ez.at ⟨HST.out.full, HST.out.data⟩).mono ?_
                            rintro e wa ⟨rfl, hba⟩
                            rw [Sl.same_true rfl]
                            have HAa := Lib.hid (HAq.out.later hba)
                            have HMa := Lib.hid (HMq.out.later hba)
                            clear hba a0 a1 a2 a3 d0 d1 d2 d3 hat her
                            obtain ⟨a0, a1, a2, a3⟩ := four_cell HAa.out.x
                            obtain ⟨d0, d1, d2, d3⟩ := four_cell HAa.out.v
                            go_wp2_with fail
                            refine (refSame_any _ _ _ _ S S wa HAa.out.ax HAa.out.av ⟨HSK.out.small.full, HSK.out.small.data⟩).mono ?_
                            rintro e wb ⟨rfl, hbb⟩
                            rw [Sl.same_true rfl]
                            have HAb := Lib.hid (HAa.out.later hbb)
                            have HMb := Lib.hid (HMa.out.later hbb)
                            have HBrb := Lib.hid (HB8.out.trans (HMb.out.bel.mono HB8.out.size))
                            have HBwb := Lib.hid (HSK.out.bel.trans (HBrb.out.mono HSK.out.bel.size))
                            clear hbb a0 a1 a2 a3 d0 d1 d2 d3
                            have hl150 : l.length ≤ 150 := by omega
                            by_cases hez : er = 0
                            · have hq0 : ((er : Int) == 0) = true := by rw [hez]; rfl
                              go_wp2_with fail
                              go_upto_region 38 with (fail)
                              clear hq0
                              refine Ord.walk (P38F (SlV T.kind T.next (.slice pc1 T.full.length cc1) (.slice pc2 T.data.length cc2)) (SlV T.kind T.next (.slice pz1 T.full.length cz1) (.slice pz2 T.data.length cz2))) (MvR w.heap.size X Y S T (.slice px1 S.full.length cx1) (.slice px2 S.data.length cx2) (.slice py1 S.full.length cy1) (.slice py2 S.data.length cy2) (.slice pc1 T.full.length cc1) (.slice pc2 T.data.length cc2) (.slice pz1 T.full.length cz1) (.slice pz2 T.data.length cz2) wb) (fun _ _ => True)
                                (by kernel_rfl) (by kernel_rfl) ?fr38b ?hfr38b (fun _ _ _ _ _ h => h) (fun xs => MvR.first xs HBwb.out.size HSK.out.hx HSK.out.hy HSK.out.ne HAb.out.x HAb.out.y) ?he38b ?hend38b
                              case hfr38b =>
                                intro xs
                                simp only [Ord.fill, Act.put, List.setIfInBounds_toArray, List.set_cons_zero, List.set_cons_succ]
                                rfl
                              case he38b =>
                                refine Ord.each_cons (fun D xs wz hD hC hP hR hA K hK => ?_) ?_
                                · -- 0
                                  clear hA
                                  have hc := (hR.same C HCX.out.1 HCX.out.2.1 HMb.out.c.lt).trans HMb.out.c
                                  obtain ⟨x0, x1, x2, x3⟩ := four_cell hc
                                  go_simp
                                  exact hK _ _ ⟨_, rfl, trivial, hR.skip _ (by decide), rfl⟩
                                refine Ord.each_cons (fun D xs wz hD hC hP hR hA K hK => ?_) ?_
                                · -- 1
                                  clear hA
                                  have hc := (hR.same Z HCX.out.2.2.1 HCX.out.2.2.2 HMb.out.z.lt).trans HMb.out.z
                                  obtain ⟨x0, x1, x2, x3⟩ := four_cell hc
                                  go_simp
                                  exact hK _ _ ⟨_, rfl, trivial, hR.skip _ (by decide), rfl⟩
                                refine Ord.each_cons (fun D xs wz hD hC hP hR hA K hK => ?_) ?_
                                · -- 2
                                  have q0 := Ord.ahead_get _ hA 0 (by decide)
                                  simp only [P38F] at q0
                                  simp only [q0] at hK
                                  clear hA
                                  obtain ⟨x0, x1, x2, x3⟩ := four_cell (hR.x0 hD)
                                  obtain ⟨f0, f1, f2, f3⟩ : _ ∧ _ ∧ _ ∧ _ := ⟨four_free (hR.x0 hD) 0, four_free (hR.x0 hD) 1, four_free (hR.x0 hD) 2, four_free (hR.x0 hD) 3⟩
                                  have hst := hR.op2 (u := undef) hD
                                  go_simp
                                  exact hK _ _ ⟨_, rfl, trivial, hst, trivial⟩
                                refine Ord.each_cons (fun D xs wz hD hC hP hR hA K hK => ?_) ?_
                                · -- 3
                                  have q1 := Ord.ahead_get _ hA 1 (by decide)
                                  simp only [P38F] at q1
                                  simp only [q1] at hK
                                  clear hA
                                  obtain ⟨x0, x1, x2, x3⟩ := four_cell (hR.y0 hD)
                                  obtain ⟨f0, f1, f2, f3⟩ : _ ∧ _ ∧ _ ∧ _ := ⟨four_free (hR.y0 hD) 0, four_free (hR.y0 hD) 1, four_free (hR.y0 hD) 2, four_free (hR.y0 hD) 3⟩
                                  have hst := hR.op3 (u := undef) hD
                                  go_simp
                                  exact hK _ _ ⟨_, rfl, trivial, hst, trivial⟩
                                exact Ord.each_nil
                              case hend38b =>
                                intro D38 xs38 we hR38 hF38
                                have HPS2 := Lib.hid (hR38.done (hF38 2 (by decide)).1 (hF38 3 (by decide)).1 HMb.out HBwb.out HST.out)
                                clear hR38 hF38
                                generalize xs38 0 = e0 at *
                                generalize xs38 1 = e1 at *
                                generalize xs38 2 = e2 at *
                                generalize xs38 3 = e3 at *
                                go_wp2_with fail
                                go_roundw
                                case rel => exact ⟨k + 1, T, _, _, _, _, by have := HLT.out; omega, by go_num, HPS2.out⟩
                                case measure => have := HLT.out; simp [intOf]; omega
                            · have hq0 : ((er : Int) == 0) = false := by simp; omega
                              go_wp2_with fail
                              go_roundw
                              case rel => exact ⟨k + 1, S, _, _, _, _, by have := HLT.out; omega, by go_num, ⟨HBwb.out, HAb.out.x, HAb.out.y, HSK.out.ex.below HBrb.out, HSK.out.ey.below HBrb.out, HSK.out.hx, HSK.out.hy, HSK.out.ne, HSK.out.small⟩⟩
                              case measure => have := HLT.out; simp [intOf]; omega
                · by_cases h2 : kd = 2
                  · as_aux_lemma =>
                      have hq0 : (kd == 0) = false := by simpa using h0
                      have hq1 : (kd == 1) = false := by simpa using h1
                      have hq2 : (kd == 2) = true := by simp [h2]
                      clear h0 h1 h2
                      have HSMT := Lib.hid (Sl.small_delR HSK.out.small at_)
                      have HCQ := Lib.hid (fun w' (hb : Below w11.heap.size w11 w') => pDelete_far _ _ S at_ w' (HA11.out.later hb).ax HSK.out.small)
                      have HRC := Lib.hid (fun w' (hb : Below w8.heap.size w8 w') => refDelete_far _ _ S at_ w' (HA8.out.later hb).ay HSK.out.small)
                      obtain ⟨rr, hrr⟩ : ∃ rr, rr = Sl.delR S at_ := ⟨_, rfl⟩
                      rw [← hrr] at HSMT HCQ HRC
                      clear hrr
                      obtain ⟨T, er⟩ := rr
                      simp only at HSMT HCQ HRC
                      have HST : Hid (Sl.Small T) := HSMT.out
                      clear HSMT
                      have HAL : Hid (∀ w', w11.grownBy w' (some C) → PlA X Y V b (off + k * 3) S (.slice px1 S.full.length cx1) (.slice px2 S.data.length cx2) (.slice py1 S.full.length cy1) (.slice py2 S.data.length cy2) (.slice pw1 S.full.length cw1) (.slice pw2 S.data.length cw2) ⟨kd, at_, .slice pb bs.length cb, bs⟩ w') := fun w' hg => HA8.out.later (below_grown HB811.out hg (HB811.out).size (Nat.le_trans HW9.out.size HC9.out))
                      have HCL : Hid (∀ w', Below w11.heap.size w11 w' → _) := fun w' hb => HCQ.out w' hb
                      go_upto_region 20 with (fail)
                      clear hq0 hq1 hq2
                      refine Ord.walk (P20F (SlV S.kind S.next (.slice px1 S.full.length cx1) (.slice px2 S.data.length cx2)) (.slice (some ⟨b, off, none⟩) l.length cap) (.int .i64 (k : Int)) (.pointer (some ⟨b, off + k * 3, none⟩)) (.pointer (some ⟨b, off + k * 3 + 1, none⟩)) (.int .i64 at_) (.int .i64 (er : Int))) (fun D xs w => ∃ F G, CsR 6 7 8 10 C (fun F G => .tuple #[SlV T.kind T.next F G, .int .i64 (er : Int)]) S T (.slice px1 S.full.length cx1) (.slice px2 S.data.length cx2) F G w11 D xs w) (fun _ _ => True)
                        (by kernel_rfl) (by kernel_rfl) ?fr20 ?hfr20 (fun _ _ _ _ _ h => h) (fun xs => CsR.first xs HC11.out) ?he20 ?hend20
                      case hfr20 =>
                        intro xs
                        simp only [Ord.fill, Act.put, List.setIfInBounds_toArray, List.set_cons_zero, List.set_cons_succ]
                        rfl
                      case he20 =>
                        refine Ord.each_cons (fun D xs wz hD hC hP hR hA K hK => ?_) ?_
                        · -- 0
                          clear hA
                          obtain ⟨F, G, hR⟩ := hR
                          obtain ⟨x0, x1, x2, x3⟩ := four_cell (HAL.out wz hR.gr).x
                          go_simp
                          exact hK _ _ ⟨_, rfl, trivial, ⟨_, _, hR.skip _ (by decide)⟩, rfl⟩
                        refine Ord.each_cons (fun D xs wz hD hC hP hR hA K hK => ?_) ?_
                        · -- 1
                          clear hA
                          obtain ⟨F, G, hR⟩ := hR
                          go_simp
                          exact hK _ _ ⟨_, rfl, trivial, ⟨_, _, hR.skip _ (by decide)⟩, rfl⟩
                        refine Ord.each_cons (fun D xs wz hD hC hP hR hA K hK => ?_) ?_
                        · -- 2
                          clear hA
                          obtain ⟨F, G, hR⟩ := hR
                          go_simp
                          exact hK _ _ ⟨_, rfl, trivial, ⟨_, _, hR.skip _ (by decide)⟩, rfl⟩
                        refine Ord.each_cons (fun D xs wz hD hC hP hR hA K hK => ?_) ?_
                        · -- 3
                          have q1 := Ord.ahead_get _ hA 1 (by decide)
                          simp only [P20F] at q1
                          have q2 := Ord.ahead_get _ hA 2 (by decide)
                          simp only [P20F] at q2
                          simp only [q1, q2] at hK
                          clear hA
                          obtain ⟨F, G, hR⟩ := hR
                          have k1 : (0 : Int) ≤ (k : Int) := by omega
                          have k2 : (k : Int) < (l.length : Int) := by have := HLT.out; omega
                          go_simp
                          exact hK _ _ ⟨_, rfl, trivial, ⟨_, _, hR.skip _ (by decide)⟩, rfl⟩
                        refine Ord.each_cons (fun D xs wz hD hC hP hR hA K hK => ?_) ?_
                        · -- 4
                          have q3 := Ord.ahead_get _ hA 3 (by decide)
                          simp only [P20F] at q3
                          simp only [q3] at hK
                          clear hA
                          obtain ⟨F, G, hR⟩ := hR
                          go_simp
                          exact hK _ _ ⟨_, rfl, trivial, ⟨_, _, hR.skip _ (by decide)⟩, rfl⟩
                        refine Ord.each_cons (fun D xs wz hD hC hP hR hA K hK => ?_) ?_
                        · -- 5
                          have q4 := Ord.ahead_get _ hA 4 (by decide)
                          simp only [P20F] at q4
                          simp only [q4] at hK
                          clear hA
                          obtain ⟨F, G, hR⟩ := hR
                          have y1 : wz.cell? ⟨b, off + k * 3 + 1, none⟩ = some (.int .i64 at_) := (HAL.out wz hR.gr).c1
                          go_simp
                          exact hK _ _ ⟨_, rfl, trivial, ⟨_, _, hR.skip _ (by decide)⟩, rfl⟩
                        refine Ord.each_cons (fun D xs wz hD hC hP hR hA K hK => ?_) ?_
                        · -- 6
                          have q0 := Ord.ahead_get _ hA 0 (by decide)
                          simp only [P20F] at q0
                          have q5 := Ord.ahead_get _ hA 5 (by decide)
                          simp only [P20F] at q5
                          simp only [q0, q5] at hK
                          clear hA
                          obtain ⟨F, G, hR⟩ := hR
                          have h7 : D 7 = false := by
                            cases h : D 7
                            · rfl
                            · have := Ord.closed_at hC 7 6 (by kernel_rfl) h
                              rw [hD] at this; cases this
                          have h8 : D 8 = false := by
                            cases h : D 8
                            · rfl
                            · have := Ord.closed_at hC 8 7 (by kernel_rfl) h
                              rw [h7] at this; cases this
                          have h10 : D 10 = false := by
                            cases h : D 10
                            · rfl
                            · have := Ord.closed_at hC 10 8 (by kernel_rfl) h
                              rw [h8] at this; cases this
                          go_simp
                          refine (HCL.out wz (hR.pre h10)).mono ?_
                          rintro e w' ⟨f, d, rfl, hf, hb⟩
                          exact hK _ _ ⟨_, rfl, trivial, ⟨_, _, hR.call (by decide) h7 h8 h10 rfl hf hb⟩, trivial⟩
                        refine Ord.each_cons (fun D xs wz hD hC hP hR hA K hK => ?_) ?_
                        · -- 7
                          clear hA
                          obtain ⟨F, G, hR⟩ := hR
                          have h6 : D 6 = true := hP { on := 6, ground := .data } (by simp) rfl
                          have e6 : xs 6 = .tuple #[SlV T.kind T.next F G, .int .i64 (er : Int)] := (hR.a1 h6).1
                          simp only [e6] at hK
                          go_simp
                          exact hK _ _ ⟨_, rfl, trivial, ⟨_, _, hR.move (by decide) rfl⟩, trivial⟩
                        refine Ord.each_cons (fun D xs wz hD hC hP hR hA K hK => ?_) ?_
                        · -- 8
                          clear hA
                          obtain ⟨F, G, hR⟩ := hR
                          have h7 : D 7 = true := hP { on := 7, ground := .data } (by simp) rfl
                          have e7 : xs 7 = .tuple #[SlV T.kind T.next F G, .int .i64 (er : Int)] := hR.a2 h7
                          simp only [e7] at hK
                          go_simp
                          exact hK _ _ ⟨_, rfl, trivial, ⟨_, _, hR.ext (by decide) rfl⟩, trivial⟩
                        refine Ord.each_cons (fun D xs wz hD hC hP hR hA K hK => ?_) ?_
                        · -- 9
                          clear hA
                          obtain ⟨F, G, hR⟩ := hR
                          have h7 : D 7 = true := hP { on := 7, ground := .data } (by simp) rfl
                          have e7 : xs 7 = .tuple #[SlV T.kind T.next F G, .int .i64 (er : Int)] := hR.a2 h7
                          simp only [e7] at hK
                          go_simp
                          exact hK _ _ ⟨_, rfl, trivial, ⟨_, _, hR.skip _ (by decide)⟩, rfl⟩
                        refine Ord.each_cons (fun D xs wz hD hC hP hR hA K hK => ?_) ?_
                        · -- 10
                          clear hA
                          obtain ⟨F, G, hR⟩ := hR
                          have h8 : D 8 = true := hP { on := 8, ground := .data } (by simp) rfl
                          have h7 : D 7 = true := Ord.closed_at hC 8 7 (by kernel_rfl) h8
                          have h6 : D 6 = true := Ord.closed_at hC 7 6 (by kernel_rfl) h7
                          obtain ⟨pf, cf, pd, cd, rfl, rfl⟩ := slv_slices (hR.a1 h6).2.at
                          have e8 := hR.a3 h8
                          simp only [e8] at hK
                          obtain ⟨x0, x1, x2, x3⟩ := four_cell (hR.z0 hD)
                          obtain ⟨f0, f1, f2, f3⟩ : _ ∧ _ ∧ _ ∧ _ := ⟨four_free (hR.z0 hD) 0, four_free (hR.z0 hD) 1, four_free (hR.z0 hD) 2, four_free (hR.z0 hD) 3⟩
                          have hst := hR.store (u := undef) (by decide) hD
                          go_simp
                          exact hK _ _ ⟨_, rfl, trivial, ⟨_, _, hst⟩, trivial⟩
                        refine Ord.each_cons (fun D xs wz hD hC hP hR hA K hK => ?_) ?_
                        · -- 11
                          have q9 := Ord.ahead_get _ hA 9 (by decide)
                          simp only [P20F] at q9
                          simp only [q9] at hK
                          clear hA
                          obtain ⟨F, G, hR⟩ := hR
                          go_simp
                          exact hK _ _ ⟨_, rfl, trivial, ⟨_, _, hR.skip _ (by decide)⟩, rfl⟩
                        exact Ord.each_nil
                      case hend20 =>
                        intro D20 xs20 wn20 hR20 hF20
                        obtain ⟨F20, G20, hR20⟩ := hR20
                        have hg20 := hR20.gr
                        have hz20 := hR20.z1 (hF20 10 (by decide)).1
                        have hf20 := (hR20.a1 (hF20 6 (by decide)).1).2
                        have t20_11 : xs20 11 = .int .i64 (er : Int) := (hF20 11 (by decide)).2
                        clear hR20 hF20
                        generalize xs20 0 = zz20_0 at *
                        generalize xs20 1 = zz20_1 at *
                        generalize xs20 2 = zz20_2 at *
                        generalize xs20 3 = zz20_3 at *
                        generalize xs20 4 = zz20_4 at *
                        generalize xs20 5 = zz20_5 at *
                        generalize xs20 6 = zz20_6 at *
                        generalize xs20 7 = zz20_7 at *
                        generalize xs20 8 = zz20_8 at *
                        generalize xs20 9 = zz20_9 at *
                        generalize xs20 10 = zz20_10 at *
                        generalize xs20 11 = zz20_11 at *
                        subst t20_11
                        have HB13 : Hid (Below w8.heap.size w8 wn20) := below_grown HB811.out hg20 HB811.out.size (Nat.le_trans HW9.out.size HC9.out)
                        have HF13 : Hid (SlFar w11.heap.size wn20 F20 G20 T) := hf20
                        have HC13 : Hid (Hs wn20 C T F20 G20) := hz20
                        have HZ13 : Hid (Hs wn20 Z S (.slice py1 S.full.length cy1) (.slice py2 S.data.length cy2)) := HZ11.out.grown hg20 (Ne.symm HCZ.out)
                        have HO13 : Hid (Own w8.heap.size wn20 (.slice p9 bs.length c9) bs) := HO11.out.grown hg20 (row_ne_blk HO11.out.own HC11.out (by decide))
                        have HSZ13 : Hid (w11.heap.size ≤ wn20.heap.size) := hg20.size
                        clear hg20 hz20 hf20 HAL HCL
                        have HAL : Hid (∀ w', wn20.grownBy w' (some Z) → PlA X Y V b (off + k * 3) S (.slice px1 S.full.length cx1) (.slice px2 S.data.length cx2) (.slice py1 S.full.length cy1) (.slice py2 S.data.length cy2) (.slice pw1 S.full.length cw1) (.slice pw2 S.data.length cw2) ⟨kd, at_, .slice pb bs.length cb, bs⟩ w') := fun w' hg => HA8.out.later (below_grown HB13.out hg (HB13.out).size (Nat.le_trans HW9.out.size HZ9.out))
                        have HCL : Hid (∀ w', Below wn20.heap.size wn20 w' → _) := fun w' hb => HRC.out w' (HB13.out.trans (hb.mono HB13.out.size))
                        go_upto_region 21 with (fail)
                        refine Ord.walk (P20F (SlV S.kind S.next (.slice py1 S.full.length cy1) (.slice py2 S.data.length cy2)) (.slice (some ⟨b, off, none⟩) l.length cap) (.int .i64 (k : Int)) (.pointer (some ⟨b, off + k * 3, none⟩)) (.pointer (some ⟨b, off + k * 3 + 1, none⟩)) (.int .i64 at_) (.int .i64 (er : Int))) (fun D xs w => ∃ F G, CsR 6 7 8 10 Z (fun F G => .tuple #[SlV T.kind T.next F G, .int .i64 (er : Int)]) S T (.slice py1 S.full.length cy1) (.slice py2 S.data.length cy2) F G wn20 D xs w) (fun _ _ => True)
                          (by kernel_rfl) (by kernel_rfl) ?fr21 ?hfr21 (fun _ _ _ _ _ h => h) (fun xs => CsR.first xs HZ13.out) ?he21 ?hend21
                        case hfr21 =>
                          intro xs
                          simp only [Ord.fill, Act.put, List.setIfInBounds_toArray, List.set_cons_zero, List.set_cons_succ]
                          rfl
                        case he21 =>
                          refine Ord.each_cons (fun D xs wz hD hC hP hR hA K hK => ?_) ?_
                          · -- 0
                            clear hA
                            obtain ⟨F, G, hR⟩ := hR
                            obtain ⟨x0, x1, x2, x3⟩ := four_cell (HAL.out wz hR.gr).y
                            go_simp
                            exact hK _ _ ⟨_, rfl, trivial, ⟨_, _, hR.skip _ (by decide)⟩, rfl⟩
                          refine Ord.each_cons (fun D xs wz hD hC hP hR hA K hK => ?_) ?_
                          · -- 1
                            clear hA
                            obtain ⟨F, G, hR⟩ := hR
                            go_simp
                            exact hK _ _ ⟨_, rfl, trivial, ⟨_, _, hR.skip _ (by decide)⟩, rfl⟩
                          refine Ord.each_cons (fun D xs wz hD hC hP hR hA K hK => ?_) ?_
                          · -- 2
                            clear hA
                            obtain ⟨F, G, hR⟩ := hR
                            go_simp
                            exact hK _ _ ⟨_, rfl, trivial, ⟨_, _, hR.skip _ (by decide)⟩, rfl⟩
                          refine Ord.each_cons (fun D xs wz hD hC hP hR hA K hK => ?_) ?_
                          · -- 3
                            have q1 := Ord.ahead_get _ hA 1 (by decide)
                            simp only [P20F] at q1
                            have q2 := Ord.ahead_get _ hA 2 (by decide)
                            simp only [P20F] at q2
                            simp only [q1, q2] at hK
                            clear hA
                            obtain ⟨F, G, hR⟩ := hR
                            have k1 : (0 : Int) ≤ (k : Int) := by omega
                            have k2 : (k : Int) < (l.length : Int) := by have := HLT.out; omega
                            go_simp
                            exact hK _ _ ⟨_, rfl, trivial, ⟨_, _, hR.skip _ (by decide)⟩, rfl⟩
                          refine Ord.each_cons (fun D xs wz hD hC hP hR hA K hK => ?_) ?_
                          · -- 4
                            have q3 := Ord.ahead_get _ hA 3 (by decide)
                            simp only [P20F] at q3
                            simp only [q3] at hK
                            clear hA
                            obtain ⟨F, G, hR⟩ := hR
                            go_simp
                            exact hK _ _ ⟨_, rfl, trivial, ⟨_, _, hR.skip _ (by decide)⟩, rfl⟩
                          refine Ord.each_cons (fun D xs wz hD hC hP hR hA K hK => ?_) ?_
                          · -- 5
                            have q4 := Ord.ahead_get _ hA 4 (by decide)
                            simp only [P20F] at q4
                            simp only [q4] at hK
                            clear hA
                            obtain ⟨F, G, hR⟩ := hR
                            have y1 : wz.cell? ⟨b, off + k * 3 + 1, none⟩ = some (.int .i64 at_) := (HAL.out wz hR.gr).c1
                            go_simp
                            exact hK _ _ ⟨_, rfl, trivial, ⟨_, _, hR.skip _ (by decide)⟩, rfl⟩
                          refine Ord.each_cons (fun D xs wz hD hC hP hR hA K hK => ?_) ?_
                          · -- 6
                            have q0 := Ord.ahead_get _ hA 0 (by decide)
                            simp only [P20F] at q0
                            have q5 := Ord.ahead_get _ hA 5 (by decide)
                            simp only [P20F] at q5
                            simp only [q0, q5] at hK
                            clear hA
                            obtain ⟨F, G, hR⟩ := hR
                            have h7 : D 7 = false := by
                              cases h : D 7
                              · rfl
                              · have := Ord.closed_at hC 7 6 (by kernel_rfl) h
                                rw [hD] at this; cases this
                            have h8 : D 8 = false := by
                              cases h : D 8
                              · rfl
                              · have := Ord.closed_at hC 8 7 (by kernel_rfl) h
                                rw [h7] at this; cases this
                            have h10 : D 10 = false := by
                              cases h : D 10
                              · rfl
                              · have := Ord.closed_at hC 10 8 (by kernel_rfl) h
                                rw [h8] at this; cases this
                            go_simp
                            refine (HCL.out wz (hR.pre h10)).mono ?_
                            rintro e w' ⟨f, d, rfl, hf, hb⟩
                            exact hK _ _ ⟨_, rfl, trivial, ⟨_, _, hR.call (by decide) h7 h8 h10 rfl hf hb⟩, trivial⟩
                          refine Ord.each_cons (fun D xs wz hD hC hP hR hA K hK => ?_) ?_
                          · -- 7
                            clear hA
                            obtain ⟨F, G, hR⟩ := hR
                            have h6 : D 6 = true := hP { on := 6, ground := .data } (by simp) rfl
                            have e6 : xs 6 = .tuple #[SlV T.kind T.next F G, .int .i64 (er : Int)] := (hR.a1 h6).1
                            simp only [e6] at hK
                            go_simp
                            exact hK _ _ ⟨_, rfl, trivial, ⟨_, _, hR.move (by decide) rfl⟩, trivial⟩
                          refine Ord.each_cons (fun D xs wz hD hC hP hR hA K hK => ?_) ?_
                          · -- 8
                            clear hA
                            obtain ⟨F, G, hR⟩ := hR
                            have h7 : D 7 = true := hP { on := 7, ground := .data } (by simp) rfl
                            have e7 : xs 7 = .tuple #[SlV T.kind T.next F G, .int .i64 (er : Int)] := hR.a2 h7
                            simp only [e7] at hK
                            go_simp
                            exact hK _ _ ⟨_, rfl, trivial, ⟨_, _, hR.ext (by decide) rfl⟩, trivial⟩
                          refine Ord.each_cons (fun D xs wz hD hC hP hR hA K hK => ?_) ?_
                          · -- 9
                            clear hA
                            obtain ⟨F, G, hR⟩ := hR
                            have h7 : D 7 = true := hP { on := 7, ground := .data } (by simp) rfl
                            have e7 : xs 7 = .tuple #[SlV T.kind T.next F G, .int .i64 (er : Int)] := hR.a2 h7
                            simp only [e7] at hK
                            go_simp
                            exact hK _ _ ⟨_, rfl, trivial, ⟨_, _, hR.skip _ (by decide)⟩, rfl⟩
                          refine Ord.each_cons (fun D xs wz hD hC hP hR hA K hK => ?_) ?_
                          · -- 10
                            clear hA
                            obtain ⟨F, G, hR⟩ := hR
                            have h8 : D 8 = true := hP { on := 8, ground := .data } (by simp) rfl
                            have h7 : D 7 = true := Ord.closed_at hC 8 7 (by kernel_rfl) h8
                            have h6 : D 6 = true := Ord.closed_at hC 7 6 (by kernel_rfl) h7
                            obtain ⟨pf, cf, pd, cd, rfl, rfl⟩ := slv_slices (hR.a1 h6).2.at
                            have e8 := hR.a3 h8
                            simp only [e8] at hK
                            obtain ⟨x0, x1, x2, x3⟩ := four_cell (hR.z0 hD)
                            obtain ⟨f0, f1, f2, f3⟩ : _ ∧ _ ∧ _ ∧ _ := ⟨four_free (hR.z0 hD) 0, four_free (hR.z0 hD) 1, four_free (hR.z0 hD) 2, four_free (hR.z0 hD) 3⟩
                            have hst := hR.store (u := undef) (by decide) hD
                            go_simp
                            exact hK _ _ ⟨_, rfl, trivial, ⟨_, _, hst⟩, trivial⟩
                          refine Ord.each_cons (fun D xs wz hD hC hP hR hA K hK => ?_) ?_
                          · -- 11
                            have q9 := Ord.ahead_get _ hA 9 (by decide)
                            simp only [P20F] at q9
                            simp only [q9] at hK
                            clear hA
                            obtain ⟨F, G, hR⟩ := hR
                            go_simp
                            exact hK _ _ ⟨_, rfl, trivial, ⟨_, _, hR.skip _ (by decide)⟩, rfl⟩
                          exact Ord.each_nil
                        case hend21 =>
                          intro D21 xs21 wn21 hR21 hF21
                          obtain ⟨F21, G21, hR21⟩ := hR21
                          have hg21 := hR21.gr
                          have hz21 := hR21.z1 (hF21 10 (by decide)).1
                          have hf21 := (hR21.a1 (hF21 6 (by decide)).1).2
                          have t21_11 : xs21 11 = .int .i64 (er : Int) := (hF21 11 (by decide)).2
                          clear hR21 hF21
                          generalize xs21 0 = zz21_0 at *
                          generalize xs21 1 = zz21_1 at *
                          generalize xs21 2 = zz21_2 at *
                          generalize xs21 3 = zz21_3 at *
                          generalize xs21 4 = zz21_4 at *
                          generalize xs21 5 = zz21_5 at *
                          generalize xs21 6 = zz21_6 at *
                          generalize xs21 7 = zz21_7 at *
                          generalize xs21 8 = zz21_8 at *
                          generalize xs21 9 = zz21_9 at *
                          generalize xs21 10 = zz21_10 at *
                          generalize xs21 11 = zz21_11 at *
                          subst t21_11
                          have HM : Hid (PlM w8 X Y C Z gb T F20 G20 F21 G21 wn21) := by
                            have h1 : ∀ k, (k = X ∨ k = Y ∨ k = gb) → k < w11.heap.size := fun k hk => by
                              have e1 := HA11.out.x.lt; have e2 := HA11.out.y.lt; have e3 := HG2.out; have e4 := HB911.out.size
                              rcases hk with e | e | e <;> omega
                            exact ⟨below_grown HB13.out hg21 HB13.out.size (Nat.le_trans HW9.out.size HZ9.out), HC13.out.grown hg21 HCZ.out, hz21, (HF13.out.grown hg21 HZ11.out.lt).dep h1, hf21.dep (fun k hk => Nat.lt_of_lt_of_le (h1 k hk) HSZ13.out)⟩
                          have hO21 := HO13.out.grown hg21 (row_ne_blk HO13.out.own HZ13.out (by decide))
                          have HRW : Hid (0 < bs.length → Row wn21 gb bs.length) := fun h0 => by
                            obtain ⟨g, c, e1, -, -, -, -, e2⟩ := own_some hO21 h0
                            rw [HG3.out h0] at e1
                            simp only [Value.slice.injEq, Option.some.injEq, Addr.mk.injEq] at e1
                            rw [e1.1.1]; exact e2
                          clear hg21 hz21 hf21 hO21 HF13 HC13 HZ13 HO13 HB13 HSZ13 HA11 HC11 HZ11 HO11 HM11 HAL HCL
                          obtain ⟨pc1, cc1, pc2, cc2, hfc, hdc⟩ := slv_slices HM.out.ec.at
                          obtain ⟨pz1, cz1, pz2, cz2, hfz, hdz⟩ := slv_slices HM.out.ez.at
                          rw [hfc, hdc, hfz, hdz] at HM
                          clear hfc hdc hfz hdz
                          go_wp2_with fail
                          go_loopw [21] (fun iv wq => ∃ q : Nat, q ≤ bs.length ∧ iv = .int .i64 q ∧ PlM w8 X Y C Z gb T (.slice pc1 T.full.length cc1) (.slice pc2 T.data.length cc2) (.slice pz1 T.full.length cz1) (.slice pz2 T.data.length cz2) wq ∧ (0 < bs.length → Row wq gb bs.length)) (fun iv _ => bs.length - (intOf iv).toNat)
                          case atStart => exact ⟨0, Nat.zero_le _, rfl, HM.out, HRW.out⟩
                          case round =>
                            obtain ⟨q, hq, rfl, hm, hrw⟩ := hrel
                            have HMq := Lib.hid hm
                            have HRq := Lib.hid hrw
                            clear hm hrw
                            have hbl := HBL.out
                            by_cases hqt : q < bs.length
                            · obtain rfl : p9 = some ⟨gb, 0, none⟩ := HG3.out (by omega)
                              have HR := Lib.hid (HRq.out (by omega))
                              obtain ⟨b0, hb0, hcell⟩ := HR.out.cell q hqt
                              have hfree := HR.out.free q
                              have HQT := Lib.hid hqt
                              have HX8 : Hid ((b0 + 1) % 256 < 256) := Nat.mod_lt _ (by decide)
                              have hk4 : (0 : Int) ≤ (q : Int) := by omega
                              have hk5 : (q : Int) < (bs.length : Int) := by omega
                              have hk6 : 0 + q = q := Nat.zero_add q
                              have HXO : Hid (((b0 : Int) + 1) % 256 = (((b0 + 1) % 256 : Nat) : Int)) := by show _ = _; omega
                              have HWR : Hid (IntKind.u8.wrap ((b0 : Int) + 1) = (((b0 + 1) % 256 : Nat) : Int)) := by
                                show _ = _
                                rw [show IntKind.u8.wrap ((b0 : Int) + 1) = ((b0 : Int) + 1) % 256 by simp [IntKind.wrap, IntKind.bits, IntKind.signed]]
                                omega
                              have hwr := HWR.out
                              go_wp2_with fail
                              rw [HXO.out]
                              go_roundw
                              case rel => exact ⟨q + 1, by have := HQT.out; omega, by go_num, HMq.out.set HR.out (HGW.out (by have := HQT.out; omega)) q _, fun _ => HR.out.set q _ HX8.out⟩
                              case measure => simp [intOf]; omega
                            · obtain rfl : q = bs.length := by omega
                              have HAq := Lib.hid (HA8.out.later HMq.out.bel)
                              obtain ⟨a0, a1, a2, a3⟩ := four_cell HMq.out.c
                              obtain ⟨d0, d1, d2, d3⟩ := four_cell HMq.out.z
                              have hat : ((0 : Int) != (0 : Int)) = false := by simp
                              have her : ((er : Int) != (er : Int)) = false := by simp
                              go_wp2_with fail
                              refine (refSame_any _ _ _ _ T T wr HMq.out.ec.at HMq.out.ez.at ⟨HST.out.full, HST.out.data⟩).mono ?_
                              rintro e wa ⟨rfl, hba⟩
                              rw [Sl.same_true rfl]
                              have HAa := Lib.hid (HAq.out.later hba)
                              have HMa := Lib.hid (HMq.out.later hba)
                              clear hba a0 a1 a2 a3 d0 d1 d2 d3 hat her
                              obtain ⟨a0, a1, a2, a3⟩ := four_cell HAa.out.x
                              obtain ⟨d0, d1, d2, d3⟩ := four_cell HAa.out.v
                              go_wp2_with fail
                              refine (refSame_any _ _ _ _ S S wa HAa.out.ax HAa.out.av ⟨HSK.out.small.full, HSK.out.small.data⟩).mono ?_
                              rintro e wb ⟨rfl, hbb⟩
                              rw [Sl.same_true rfl]
                              have HAb := Lib.hid (HAa.out.later hbb)
                              have HMb := Lib.hid (HMa.out.later hbb)
                              have HBrb := Lib.hid (HB8.out.trans (HMb.out.bel.mono HB8.out.size))
                              have HBwb := Lib.hid (HSK.out.bel.trans (HBrb.out.mono HSK.out.bel.size))
                              clear hbb a0 a1 a2 a3 d0 d1 d2 d3
                              have hl150 : l.length ≤ 150 := by omega
                              by_cases hez : er = 0
                              · have hq0 : ((er : Int) == 0) = true := by rw [hez]; rfl
                                go_wp2_with fail
                                go_upto_region 38 with (fail)
                                clear hq0
                                refine Ord.walk (P38F (SlV T.kind T.next (.slice pc1 T.full.length cc1) (.slice pc2 T.data.length cc2)) (SlV T.kind T.next (.slice pz1 T.full.length cz1) (.slice pz2 T.data.length cz2))) (MvR w.heap.size X Y S T (.slice px1 S.full.length cx1) (.slice px2 S.data.length cx2) (.slice py1 S.full.length cy1) (.slice py2 S.data.length cy2) (.slice pc1 T.full.length cc1) (.slice pc2 T.data.length cc2) (.slice pz1 T.full.length cz1) (.slice pz2 T.data.length cz2) wb) (fun _ _ => True)
                                  (by kernel_rfl) (by kernel_rfl) ?fr38c ?hfr38c (fun _ _ _ _ _ h => h) (fun xs => MvR.first xs HBwb.out.size HSK.out.hx HSK.out.hy HSK.out.ne HAb.out.x HAb.out.y) ?he38c ?hend38c
                                case hfr38c =>
                                  intro xs
                                  simp only [Ord.fill, Act.put, List.setIfInBounds_toArray, List.set_cons_zero, List.set_cons_succ]
                                  rfl
                                case he38c =>
                                  refine Ord.each_cons (fun D xs wz hD hC hP hR hA K hK => ?_) ?_
                                  · -- 0
                                    clear hA
                                    have hc := (hR.same C HCX.out.1 HCX.out.2.1 HMb.out.c.lt).trans HMb.out.c
                                    obtain ⟨x0, x1, x2, x3⟩ := four_cell hc
                                    go_simp
                                    exact hK _ _ ⟨_, rfl, trivial, hR.skip _ (by decide), rfl⟩
                                  refine Ord.each_cons (fun D xs wz hD hC hP hR hA K hK => ?_) ?_
                                  · -- 1
                                    clear hA
                                    have hc := (hR.same Z HCX.out.2.2.1 HCX.out.2.2.2 HMb.out.z.lt).trans HMb.out.z
                                    obtain ⟨x0, x1, x2, x3⟩ := four_cell hc
                                    go_simp
                                    exact hK _ _ ⟨_, rfl, trivial, hR.skip _ (by decide), rfl⟩
                                  refine Ord.each_cons (fun D xs wz hD hC hP hR hA K hK => ?_) ?_
                                  · -- 2
                                    have q0 := Ord.ahead_get _ hA 0 (by decide)
                                    simp only [P38F] at q0
                                    simp only [q0] at hK
                                    clear hA
                                    obtain ⟨x0, x1, x2, x3⟩ := four_cell (hR.x0 hD)
                                    obtain ⟨f0, f1, f2, f3⟩ : _ ∧ _ ∧ _ ∧ _ := ⟨four_free (hR.x0 hD) 0, four_free (hR.x0 hD) 1, four_free (hR.x0 hD) 2, four_free (hR.x0 hD) 3⟩
                                    have hst := hR.op2 (u := undef) hD
                                    go_simp
                                    exact hK _ _ ⟨_, rfl, trivial, hst, trivial⟩
                                  refine Ord.each_cons (fun D xs wz hD hC hP hR hA K hK => ?_) ?_
                                  · -- 3
                                    have q1 := Ord.ahead_get _ hA 1 (by decide)
                                    simp only [P38F] at q1
                                    simp only [q1] at hK
                                    clear hA
                                    obtain ⟨x0, x1, x2, x3⟩ := four_cell (hR.y0 hD)
                                    obtain ⟨f0, f1, f2, f3⟩ : _ ∧ _ ∧ _ ∧ _ := ⟨four_free (hR.y0 hD) 0, four_free (hR.y0 hD) 1, four_free (hR.y0 hD) 2, four_free (hR.y0 hD) 3⟩
                                    have hst := hR.op3 (u := undef) hD
                                    go_simp
                                    exact hK _ _ ⟨_, rfl, trivial, hst, trivial⟩
                                  exact Ord.each_nil
                                case hend38c =>
                                  intro D38 xs38 we hR38 hF38
                                  have HPS2 := Lib.hid (hR38.done (hF38 2 (by decide)).1 (hF38 3 (by decide)).1 HMb.out HBwb.out HST.out)
                                  clear hR38 hF38
                                  generalize xs38 0 = e0 at *
                                  generalize xs38 1 = e1 at *
                                  generalize xs38 2 = e2 at *
                                  generalize xs38 3 = e3 at *
                                  go_wp2_with fail
                                  go_roundw
                                  case rel => exact ⟨k + 1, T, _, _, _, _, by have := HLT.out; omega, by go_num, HPS2.out⟩
                                  case measure => have := HLT.out; simp [intOf]; omega
                              · have hq0 : ((er : Int) == 0) = false := by simp; omega
                                go_wp2_with fail
                                go_roundw
                                case rel => exact ⟨k + 1, S, _, _, _, _, by have := HLT.out; omega, by go_num, ⟨HBwb.out, HAb.out.x, HAb.out.y, HSK.out.ex.below HBrb.out, HSK.out.ey.below HBrb.out, HSK.out.hx, HSK.out.hy, HSK.out.ne, HSK.out.small⟩⟩
                                case measure => have := HLT.out; simp [intOf]; omega
                  · by_cases h3 : kd = 3
                    · as_aux_lemma =>
                        have hq0 : (kd == 0) = false := by simpa using h0
                        have hq1 : (kd == 1) = false := by simpa using h1
                        have hq2 : (kd == 2) = false := by simpa using h2
                        have hq3 : (kd == 3) = true := by simp [h3]
                        clear h0 h1 h2 h3
                        have HGP := Lib.hid (fun w' (hb : Below w11.heap.size w11 w') => HA.out.get at_ (HA11.out.later hb).ax HSK.out.small)
                        have HGQ := Lib.hid (fun w' (hb : Below w8.heap.size w8 w') => refGet_any _ _ S at_ w' (HA8.out.later hb).ay HSK.out.small)
                        obtain ⟨rr, hrr⟩ : ∃ rr, rr = Sl.getR S at_ := ⟨_, rfl⟩
                        rw [← hrr] at HGP HGQ
                        clear hrr
                        obtain ⟨gl, ge⟩ := rr
                        simp only at HGP HGQ
                        have HAL : Hid (∀ w', Below w11.heap.size w11 w' → PlA X Y V b (off + k * 3) S (.slice px1 S.full.length cx1) (.slice px2 S.data.length cx2) (.slice py1 S.full.length cy1) (.slice py2 S.data.length cy2) (.slice pw1 S.full.length cw1) (.slice pw2 S.data.length cw2) ⟨kd, at_, .slice pb bs.length cb, bs⟩ w') := fun w' hb => HA8.out.later (HB811.out.trans (hb.mono HB811.out.size))
                        have HCL : Hid (∀ w', Below w11.heap.size w11 w' → _) := fun w' hb => HGP.out w' hb
                        go_upto_region 23 with (fail)
                        clear hq0 hq1 hq2 hq3
                        refine Ord.walk (P20F (SlV S.kind S.next (.slice px1 S.full.length cx1) (.slice px2 S.data.length cx2)) (.slice (some ⟨b, off, none⟩) l.length cap) (.int .i64 (k : Int)) (.pointer (some ⟨b, off + k * 3, none⟩)) (.pointer (some ⟨b, off + k * 3 + 1, none⟩)) (.int .i64 at_) (.int .i64 (ge : Int))) (fun D xs w => ∃ U, GtR (fun U => .tuple #[U, .int .i64 (ge : Int)]) true gl U w11 D xs w) (fun _ _ => True)
                          (by kernel_rfl) (by kernel_rfl) ?fr23 ?hfr23 (fun _ _ _ _ _ h => h) (fun xs => GtR.first xs) ?he23 ?hend23
                        case hfr23 =>
                          intro xs
                          simp only [Ord.fill, Act.put, List.setIfInBounds_toArray, List.set_cons_zero, List.set_cons_succ]
                          rfl
                        case he23 =>
                          refine Ord.each_cons (fun D xs wz hD hC hP hR hA K hK => ?_) ?_
                          · -- 0
                            clear hA
                            obtain ⟨U, hR⟩ := hR
                            obtain ⟨x0, x1, x2, x3⟩ := four_cell (HAL.out wz hR.bel).x
                            go_simp
                            exact hK _ _ ⟨_, rfl, trivial, ⟨_, hR.skip _ (by decide)⟩, rfl⟩
                          refine Ord.each_cons (fun D xs wz hD hC hP hR hA K hK => ?_) ?_
                          · -- 1
                            clear hA
                            obtain ⟨U, hR⟩ := hR
                            go_simp
                            exact hK _ _ ⟨_, rfl, trivial, ⟨_, hR.skip _ (by decide)⟩, rfl⟩
                          refine Ord.each_cons (fun D xs wz hD hC hP hR hA K hK => ?_) ?_
                          · -- 2
                            clear hA
                            obtain ⟨U, hR⟩ := hR
                            go_simp
                            exact hK _ _ ⟨_, rfl, trivial, ⟨_, hR.skip _ (by decide)⟩, rfl⟩
                          refine Ord.each_cons (fun D xs wz hD hC hP hR hA K hK => ?_) ?_
                          · -- 3
                            have q1 := Ord.ahead_get _ hA 1 (by decide)
                            simp only [P20F] at q1
                            have q2 := Ord.ahead_get _ hA 2 (by decide)
                            simp only [P20F] at q2
                            simp only [q1, q2] at hK
                            clear hA
                            obtain ⟨U, hR⟩ := hR
                            have k1 : (0 : Int) ≤ (k : Int) := by omega
                            have k2 : (k : Int) < (l.length : Int) := by have := HLT.out; omega
                            go_simp
                            exact hK _ _ ⟨_, rfl, trivial, ⟨_, hR.skip _ (by decide)⟩, rfl⟩
                          refine Ord.each_cons (fun D xs wz hD hC hP hR hA K hK => ?_) ?_
                          · -- 4
                            have q3 := Ord.ahead_get _ hA 3 (by decide)
                            simp only [P20F] at q3
                            simp only [q3] at hK
                            clear hA
                            obtain ⟨U, hR⟩ := hR
                            go_simp
                            exact hK _ _ ⟨_, rfl, trivial, ⟨_, hR.skip _ (by decide)⟩, rfl⟩
                          refine Ord.each_cons (fun D xs wz hD hC hP hR hA K hK => ?_) ?_
                          · -- 5
                            have q4 := Ord.ahead_get _ hA 4 (by decide)
                            simp only [P20F] at q4
                            simp only [q4] at hK
                            clear hA
                            obtain ⟨U, hR⟩ := hR
                            have y1 : wz.cell? ⟨b, off + k * 3 + 1, none⟩ = some (.int .i64 at_) := (HAL.out wz hR.bel).c1
                            go_simp
                            exact hK _ _ ⟨_, rfl, trivial, ⟨_, hR.skip _ (by decide)⟩, rfl⟩
                          refine Ord.each_cons (fun D xs wz hD hC hP hR hA K hK => ?_) ?_
                          · -- 6
                            have q0 := Ord.ahead_get _ hA 0 (by decide)
                            simp only [P20F] at q0
                            have q5 := Ord.ahead_get _ hA 5 (by decide)
                            simp only [P20F] at q5
                            simp only [q0, q5] at hK
                            clear hA
                            obtain ⟨U, hR⟩ := hR
                            have h7 : D 7 = false := by
                              cases h : D 7
                              · rfl
                              · have := Ord.closed_at hC 7 6 (by kernel_rfl) h
                                rw [hD] at this; cases this
                            have h8 : D 8 = false := by
                              cases h : D 8
                              · rfl
                              · have := Ord.closed_at hC 8 7 (by kernel_rfl) h
                                rw [h7] at this; cases this
                            have h10 : D 10 = false := by
                              cases h : D 10
                              · rfl
                              · have := Ord.closed_at hC 10 8 (by kernel_rfl) h
                                rw [h8] at this; cases this
                            go_simp
                            refine (HCL.out wz hR.bel).mono ?_
                            rintro e w' ⟨u, rfl, hB, hb⟩
                            exact hK _ _ ⟨_, rfl, trivial, ⟨_, hR.call h7 h8 h10 rfl hB.bts (fun _ => hB) hb⟩, trivial⟩
                          refine Ord.each_cons (fun D xs wz hD hC hP hR hA K hK => ?_) ?_
                          · -- 7
                            clear hA
                            obtain ⟨U, hR⟩ := hR
                            have h6 : D 6 = true := hP { on := 6, ground := .data } (by simp) rfl
                            have e6 : xs 6 = .tuple #[U, .int .i64 (ge : Int)] := (hR.a6 h6).1
                            simp only [e6] at hK
                            go_simp
                            exact hK _ _ ⟨_, rfl, trivial, ⟨_, hR.move rfl⟩, trivial⟩
                          refine Ord.each_cons (fun D xs wz hD hC hP hR hA K hK => ?_) ?_
                          · -- 8
                            clear hA
                            obtain ⟨U, hR⟩ := hR
                            have h7 : D 7 = true := hP { on := 7, ground := .data } (by simp) rfl
                            have e7 : xs 7 = .tuple #[U, .int .i64 (ge : Int)] := hR.a7 h7
                            simp only [e7] at hK
                            go_simp
                            exact hK _ _ ⟨_, rfl, trivial, ⟨_, hR.ext rfl⟩, trivial⟩
                          refine Ord.each_cons (fun D xs wz hD hC hP hR hA K hK => ?_) ?_
                          · -- 9
                            clear hA
                            obtain ⟨U, hR⟩ := hR
                            have h7 : D 7 = true := hP { on := 7, ground := .data } (by simp) rfl
                            have e7 : xs 7 = .tuple #[U, .int .i64 (ge : Int)] := hR.a7 h7
                            simp only [e7] at hK
                            go_simp
                            exact hK _ _ ⟨_, rfl, trivial, ⟨_, hR.skip _ (by decide)⟩, rfl⟩
                          refine Ord.each_cons (fun D xs wz hD hC hP hR hA K hK => ?_) ?_
                          · -- 10
                            clear hA
                            obtain ⟨U, hR⟩ := hR
                            have h8 : D 8 = true := hP { on := 8, ground := .data } (by simp) rfl
                            have e8 : xs 8 = U := hR.a8 h8
                            simp only [e8] at hK
                            go_simp
                            exact hK _ _ ⟨_, rfl, trivial, ⟨_, hR.last rfl⟩, trivial⟩
                          refine Ord.each_cons (fun D xs wz hD hC hP hR hA K hK => ?_) ?_
                          · -- 11
                            have q9 := Ord.ahead_get _ hA 9 (by decide)
                            simp only [P20F] at q9
                            simp only [q9] at hK
                            clear hA
                            obtain ⟨U, hR⟩ := hR
                            go_simp
                            exact hK _ _ ⟨_, rfl, trivial, ⟨_, hR.skip _ (by decide)⟩, rfl⟩
                          exact Ord.each_nil
                        case hend23 =>
                          intro D23 xs23 wn23 hR23 hF23
                          obtain ⟨U23, hR23⟩ := hR23
                          have hb23 := hR23.bel
                          have hB23 := (hR23.a6 (hF23 6 (by decide)).1).2
                          have t10 := hR23.a10 (hF23 10 (by decide)).1
                          have t11 : xs23 11 = .int .i64 (ge : Int) := (hF23 11 (by decide)).2
                          clear hR23 hF23
                          generalize xs23 0 = zz23_0 at *
                          generalize xs23 1 = zz23_1 at *
                          generalize xs23 2 = zz23_2 at *
                          generalize xs23 3 = zz23_3 at *
                          generalize xs23 4 = zz23_4 at *
                          generalize xs23 5 = zz23_5 at *
                          generalize xs23 6 = zz23_6 at *
                          generalize xs23 7 = zz23_7 at *
                          generalize xs23 8 = zz23_8 at *
                          generalize xs23 9 = zz23_9 at *
                          generalize xs23 10 = zz23_10 at *
                          generalize xs23 11 = zz23_11 at *
                          subst t10 t11
                          have hO23 := hB23.2 rfl
                          obtain ⟨pg, cg, hU, hcg, -, -⟩ := hO23.bts.form
                          subst hU
                          have HG23 := Lib.hid hO23
                          have HCG := Lib.hid hcg
                          have HB23 := Lib.hid hb23
                          have HB823 := Lib.hid (HB811.out.trans (hb23.mono HB811.out.size))
                          clear hb23 hB23 hO23 hcg HAL HCL
                          have HAL : Hid (∀ w', Below wn23.heap.size wn23 w' → PlA X Y V b (off + k * 3) S (.slice px1 S.full.length cx1) (.slice px2 S.data.length cx2) (.slice py1 S.full.length cy1) (.slice py2 S.data.length cy2) (.slice pw1 S.full.length cw1) (.slice pw2 S.data.length cw2) ⟨kd, at_, .slice pb bs.length cb, bs⟩ w') := fun w' hb => HA8.out.later (HB823.out.trans (hb.mono HB823.out.size))
                          have HCL : Hid (∀ w', Below wn23.heap.size wn23 w' → _) := fun w' hb => HGQ.out w' (HB823.out.trans (hb.mono HB823.out.size))
                          go_upto_region 24 with (fail)
                          refine Ord.walk (P20F (SlV S.kind S.next (.slice py1 S.full.length cy1) (.slice py2 S.data.length cy2)) (.slice (some ⟨b, off, none⟩) l.length cap) (.int .i64 (k : Int)) (.pointer (some ⟨b, off + k * 3, none⟩)) (.pointer (some ⟨b, off + k * 3 + 1, none⟩)) (.int .i64 at_) (.int .i64 (ge : Int))) (fun D xs w => ∃ U, GtR (fun U => .tuple #[U, .int .i64 (ge : Int)]) false gl U wn23 D xs w) (fun _ _ => True)
                            (by kernel_rfl) (by kernel_rfl) ?fr24 ?hfr24 (fun _ _ _ _ _ h => h) (fun xs => GtR.first xs) ?he24 ?hend24
                          case hfr24 =>
                            intro xs
                            simp only [Ord.fill, Act.put, List.setIfInBounds_toArray, List.set_cons_zero, List.set_cons_succ]
                            rfl
                          case he24 =>
                            refine Ord.each_cons (fun D xs wz hD hC hP hR hA K hK => ?_) ?_
                            · -- 0
                              clear hA
                              obtain ⟨U, hR⟩ := hR
                              obtain ⟨x0, x1, x2, x3⟩ := four_cell (HAL.out wz hR.bel).y
                              go_simp
                              exact hK _ _ ⟨_, rfl, trivial, ⟨_, hR.skip _ (by decide)⟩, rfl⟩
                            refine Ord.each_cons (fun D xs wz hD hC hP hR hA K hK => ?_) ?_
                            · -- 1
                              clear hA
                              obtain ⟨U, hR⟩ := hR
                              go_simp
                              exact hK _ _ ⟨_, rfl, trivial, ⟨_, hR.skip _ (by decide)⟩, rfl⟩
                            refine Ord.each_cons (fun D xs wz hD hC hP hR hA K hK => ?_) ?_
                            · -- 2
                              clear hA
                              obtain ⟨U, hR⟩ := hR
                              go_simp
                              exact hK _ _ ⟨_, rfl, trivial, ⟨_, hR.skip _ (by decide)⟩, rfl⟩
                            refine Ord.each_cons (fun D xs wz hD hC hP hR hA K hK => ?_) ?_
                            · -- 3
                              have q1 := Ord.ahead_get _ hA 1 (by decide)
                              simp only [P20F] at q1
                              have q2 := Ord.ahead_get _ hA 2 (by decide)
                              simp only [P20F] at q2
                              simp only [q1, q2] at hK
                              clear hA
                              obtain ⟨U, hR⟩ := hR
                              have k1 : (0 : Int) ≤ (k : Int) := by omega
                              have k2 : (k : Int) < (l.length : Int) := by have := HLT.out; omega
                              go_simp
                              exact hK _ _ ⟨_, rfl, trivial, ⟨_, hR.skip _ (by decide)⟩, rfl⟩
                            refine Ord.each_cons (fun D xs wz hD hC hP hR hA K hK => ?_) ?_
                            · -- 4
                              have q3 := Ord.ahead_get _ hA 3 (by decide)
                              simp only [P20F] at q3
                              simp only [q3] at hK
                              clear hA
                              obtain ⟨U, hR⟩ := hR
                              go_simp
                              exact hK _ _ ⟨_, rfl, trivial, ⟨_, hR.skip _ (by decide)⟩, rfl⟩
                            refine Ord.each_cons (fun D xs wz hD hC hP hR hA K hK => ?_) ?_
                            · -- 5
                              have q4 := Ord.ahead_get _ hA 4 (by decide)
                              simp only [P20F] at q4
                              simp only [q4] at hK
                              clear hA
                              obtain ⟨U, hR⟩ := hR
                              have y1 : wz.cell? ⟨b, off + k * 3 + 1, none⟩ = some (.int .i64 at_) := (HAL.out wz hR.bel).c1
                              go_simp
                              exact hK _ _ ⟨_, rfl, trivial, ⟨_, hR.skip _ (by decide)⟩, rfl⟩
                            refine Ord.each_cons (fun D xs wz hD hC hP hR hA K hK => ?_) ?_
                            · -- 6
                              have q0 := Ord.ahead_get _ hA 0 (by decide)
                              simp only [P20F] at q0
                              have q5 := Ord.ahead_get _ hA 5 (by decide)
                              simp only [P20F] at q5
                              simp only [q0, q5] at hK
                              clear hA
                              obtain ⟨U, hR⟩ := hR
                              have h7 : D 7 = false := by
                                cases h : D 7
                                · rfl
                                · have := Ord.closed_at hC 7 6 (by kernel_rfl) h
                                  rw [hD] at this; cases this
                              have h8 : D 8 = false := by
                                cases h : D 8
                                · rfl
                                · have := Ord.closed_at hC 8 7 (by kernel_rfl) h
                                  rw [h7] at this; cases this
                              have h10 : D 10 = false := by
                                cases h : D 10
                                · rfl
                                · have := Ord.closed_at hC 10 8 (by kernel_rfl) h
                                  rw [h8] at this; cases this
                              go_simp
                              refine (HCL.out wz hR.bel).mono ?_
                              rintro e w' ⟨u, rfl, hB, hb⟩
                              exact hK _ _ ⟨_, rfl, trivial, ⟨_, hR.call h7 h8 h10 rfl hB (fun e => by cases e) hb⟩, trivial⟩
                            refine Ord.each_cons (fun D xs wz hD hC hP hR hA K hK => ?_) ?_
                            · -- 7
                              clear hA
                              obtain ⟨U, hR⟩ := hR
                              have h6 : D 6 = true := hP { on := 6, ground := .data } (by simp) rfl
                              have e6 : xs 6 = .tuple #[U, .int .i64 (ge : Int)] := (hR.a6 h6).1
                              simp only [e6] at hK
                              go_simp
                              exact hK _ _ ⟨_, rfl, trivial, ⟨_, hR.move rfl⟩, trivial⟩
                            refine Ord.each_cons (fun D xs wz hD hC hP hR hA K hK => ?_) ?_
                            · -- 8
                              clear hA
                              obtain ⟨U, hR⟩ := hR
                              have h7 : D 7 = true := hP { on := 7, ground := .data } (by simp) rfl
                              have e7 : xs 7 = .tuple #[U, .int .i64 (ge : Int)] := hR.a7 h7
                              simp only [e7] at hK
                              go_simp
                              exact hK _ _ ⟨_, rfl, trivial, ⟨_, hR.ext rfl⟩, trivial⟩
                            refine Ord.each_cons (fun D xs wz hD hC hP hR hA K hK => ?_) ?_
                            · -- 9
                              clear hA
                              obtain ⟨U, hR⟩ := hR
                              have h7 : D 7 = true := hP { on := 7, ground := .data } (by simp) rfl
                              have e7 : xs 7 = .tuple #[U, .int .i64 (ge : Int)] := hR.a7 h7
                              simp only [e7] at hK
                              go_simp
                              exact hK _ _ ⟨_, rfl, trivial, ⟨_, hR.skip _ (by decide)⟩, rfl⟩
                            refine Ord.each_cons (fun D xs wz hD hC hP hR hA K hK => ?_) ?_
                            · -- 10
                              clear hA
                              obtain ⟨U, hR⟩ := hR
                              have h8 : D 8 = true := hP { on := 8, ground := .data } (by simp) rfl
                              have e8 : xs 8 = U := hR.a8 h8
                              simp only [e8] at hK
                              go_simp
                              exact hK _ _ ⟨_, rfl, trivial, ⟨_, hR.last rfl⟩, trivial⟩
                            refine Ord.each_cons (fun D xs wz hD hC hP hR hA K hK => ?_) ?_
                            · -- 11
                              have q9 := Ord.ahead_get _ hA 9 (by decide)
                              simp only [P20F] at q9
                              simp only [q9] at hK
                              clear hA
                              obtain ⟨U, hR⟩ := hR
                              go_simp
                              exact hK _ _ ⟨_, rfl, trivial, ⟨_, hR.skip _ (by decide)⟩, rfl⟩
                            exact Ord.each_nil
                          case hend24 =>
                            intro D24 xs24 wn24 hR24 hF24
                            obtain ⟨U24, hR24⟩ := hR24
                            have hb24 := hR24.bel
                            have hB24 := (hR24.a6 (hF24 6 (by decide)).1).2
                            have t10 := hR24.a10 (hF24 10 (by decide)).1
                            have t11 : xs24 11 = .int .i64 (ge : Int) := (hF24 11 (by decide)).2
                            clear hR24 hF24
                            generalize xs24 0 = zz24_0 at *
                            generalize xs24 1 = zz24_1 at *
                            generalize xs24 2 = zz24_2 at *
                            generalize xs24 3 = zz24_3 at *
                            generalize xs24 4 = zz24_4 at *
                            generalize xs24 5 = zz24_5 at *
                            generalize xs24 6 = zz24_6 at *
                            generalize xs24 7 = zz24_7 at *
                            generalize xs24 8 = zz24_8 at *
                            generalize xs24 9 = zz24_9 at *
                            generalize xs24 10 = zz24_10 at *
                            generalize xs24 11 = zz24_11 at *
                            subst t10 t11
                            obtain ⟨ph, ch, hH, hch, -, -⟩ := hB24.1.form
                            subst hH
                            have HB1124 := Lib.hid (HB23.out.trans (hb24.mono HB23.out.size))
                            have HG24 := Lib.hid (HG23.out.below hb24)
                            have HH24 := Lib.hid hB24.1
                            clear hB24 hb24 HAL HCL HGP HGQ
                            have hcg1 := HCG.out.2
                            have hcg2 := HCG.out.1
                            have cv1 := strOf_conv HG24.out.bts
                            have cv2 := strOf_conv HH24.out
                            have hge : ((ge : Int) != (ge : Int)) = false := by simp
                            generalize strOfNums (gl.map fun x : Nat => (x : Int)) = SS at *
                            go_wp2_with fail
                            clear cv1 cv2 hge
                            have HPG : Hid (0 < gl.length → ∃ gg, pg = some ⟨gg, 0, none⟩ ∧ w11.heap.size ≤ gg ∧ Row wn24 gg gl.length) := fun h0 => by
                              obtain ⟨gg, c, e1, e2, -, -, -, e3⟩ := own_some HG24.out h0
                              simp only [Value.slice.injEq] at e1
                              exact ⟨gg, e1.1, e2, e3⟩
                            go_loopw [20] (fun iv wq => ∃ q : Nat, q ≤ gl.length ∧ iv = .int .i64 q ∧ Below w11.heap.size w11 wq ∧ (∀ gg, pg = some ⟨gg, 0, none⟩ → 0 < gl.length → Row wq gg gl.length)) (fun iv _ => gl.length - (intOf iv).toNat)
                            case atStart => exact ⟨0, Nat.zero_le _, rfl, HB1124.out, fun gg hg h0 => by
                              obtain ⟨g2, e1, -, e3⟩ := HPG.out h0
                              rw [hg] at e1
                              simp only [Option.some.injEq, Addr.mk.injEq] at e1
                              rw [e1.1]; exact e3⟩
                            case round =>
                              obtain ⟨q, hq, rfl, hbq, hrq⟩ := hrel
                              have HBq := Lib.hid hbq
                              have HRq := Lib.hid hrq
                              clear hbq hrq
                              by_cases hqt : q < gl.length
                              · obtain ⟨gg, hpg, hgg, -⟩ := HPG.out (by omega)
                                subst hpg
                                have HGG := Lib.hid hgg
                                have HR := Lib.hid (HRq.out gg rfl (by omega))
                                obtain ⟨b0, hb0, hcell⟩ := HR.out.cell q hqt
                                have hfree := HR.out.free q
                                have HQT := Lib.hid hqt
                                clear hgg
                                have HX8 : Hid ((b0 + 1) % 256 < 256) := Nat.mod_lt _ (by decide)
                                have hk4 : (0 : Int) ≤ (q : Int) := by omega
                                have hk5 : (q : Int) < (gl.length : Int) := by omega
                                have hk6 : 0 + q = q := Nat.zero_add q
                                have HXO : Hid (((b0 : Int) + 1) % 256 = (((b0 + 1) % 256 : Nat) : Int)) := by show _ = _; omega
                                have HWR : Hid (IntKind.u8.wrap ((b0 : Int) + 1) = (((b0 + 1) % 256 : Nat) : Int)) := by
                                  show _ = _
                                  rw [show IntKind.u8.wrap ((b0 : Int) + 1) = ((b0 : Int) + 1) % 256 by simp [IntKind.wrap, IntKind.bits, IntKind.signed]]
                                  omega
                                have hwr := HWR.out
                                go_wp2_with fail
                                rw [HXO.out]
                                go_roundw
                                case rel =>
                                  refine ⟨q + 1, by have := HQT.out; omega, by go_num, below_grown HBq.out (grownBy_setCell _ _ _ _) HBq.out.size HGG.out, fun g2 hg2 _ => ?_⟩
                                  simp only [Option.some.injEq, Addr.mk.injEq] at hg2
                                  rw [← hg2.1]
                                  exact HR.out.set q _ HX8.out
                                case measure => simp [intOf]; omega
                              · obtain rfl : q = gl.length := by omega
                                have HM := Lib.hid (HM11.out.later HBq.out)
                                have hO24 := HO11.out.below HBq.out
                                have HST : Hid (Sl.Small S) := HSK.out.small
                                have HRW : Hid (0 < bs.length → Row wr gb bs.length) := fun h0 => by
                                  obtain ⟨g, c, e1, -, -, -, -, e2⟩ := own_some hO24 h0
                                  rw [HG3.out h0] at e1
                                  simp only [Value.slice.injEq, Option.some.injEq, Addr.mk.injEq] at e1
                                  rw [e1.1.1]; exact e2
                                clear hO24 hcg1 hcg2
                                obtain ⟨pc1, cc1, pc2, cc2, hfc, hdc⟩ := slv_slices HM.out.ec.at
                                obtain ⟨pz1, cz1, pz2, cz2, hfz, hdz⟩ := slv_slices HM.out.ez.at
                                rw [hfc, hdc, hfz, hdz] at HM
                                clear hfc hdc hfz hdz
                                go_wp2_with fail
                                go_loopw [21] (fun iv wq => ∃ q : Nat, q ≤ bs.length ∧ iv = .int .i64 q ∧ PlM w8 X Y C Z gb S (.slice pc1 S.full.length cc1) (.slice pc2 S.data.length cc2) (.slice pz1 S.full.length cz1) (.slice pz2 S.data.length cz2) wq ∧ (0 < bs.length → Row wq gb bs.length)) (fun iv _ => bs.length - (intOf iv).toNat)
                                case atStart => exact ⟨0, Nat.zero_le _, rfl, HM.out, HRW.out⟩
                                case round =>
                                  obtain ⟨q, hq, rfl, hm, hrw⟩ := hrel
                                  have HMq := Lib.hid hm
                                  have HRq := Lib.hid hrw
                                  clear hm hrw
                                  have hbl := HBL.out
                                  by_cases hqt : q < bs.length
                                  · obtain rfl : p9 = some ⟨gb, 0, none⟩ := HG3.out (by omega)
                                    have HR := Lib.hid (HRq.out (by omega))
                                    obtain ⟨b0, hb0, hcell⟩ := HR.out.cell q hqt
                                    have hfree := HR.out.free q
                                    have HQT := Lib.hid hqt
                                    have HX8 : Hid ((b0 + 1) % 256 < 256) := Nat.mod_lt _ (by decide)
                                    have hk4 : (0 : Int) ≤ (q : Int) := by omega
                                    have hk5 : (q : Int) < (bs.length : Int) := by omega
                                    have hk6 : 0 + q = q := Nat.zero_add q
                                    have HXO : Hid (((b0 : Int) + 1) % 256 = (((b0 + 1) % 256 : Nat) : Int)) := by show _ = _; omega
                                    have HWR : Hid (IntKind.u8.wrap ((b0 : Int) + 1) = (((b0 + 1) % 256 : Nat) : Int)) := by
                                      show _ = _
                                      rw [show IntKind.u8.wrap ((b0 : Int) + 1) = ((b0 : Int) + 1) % 256 by simp [IntKind.wrap, IntKind.bits, IntKind.signed]]
                                      omega
                                    have hwr := HWR.out
                                    go_wp2_with fail
                                    rw [HXO.out]
                                    go_roundw
                                    case rel => exact ⟨q + 1, by have := HQT.out; omega, by go_num, HMq.out.set HR.out (HGW.out (by have := HQT.out; omega)) q _, fun _ => HR.out.set q _ HX8.out⟩
                                    case measure => simp [intOf]; omega
                                  · obtain rfl : q = bs.length := by omega
                                    have HAq := Lib.hid (HA8.out.later HMq.out.bel)
                                    obtain ⟨a0, a1, a2, a3⟩ := four_cell HMq.out.c
                                    obtain ⟨d0, d1, d2, d3⟩ := four_cell HMq.out.z
                                    have hat : ((0 : Int) != (0 : Int)) = false := by simp
                                    have her := HLT.out
                                    go_wp2_with fail
                                    refine (refSame_any _ _ _ _ S S wr HMq.out.ec.at HMq.out.ez.at ⟨HST.out.full, HST.out.data⟩).mono ?_
                                    rintro e wa ⟨rfl, hba⟩
                                    rw [Sl.same_true rfl]
                                    have HAa := Lib.hid (HAq.out.later hba)
                                    have HMa := Lib.hid (HMq.out.later hba)
                                    clear hba a0 a1 a2 a3 d0 d1 d2 d3 hat her
                                    obtain ⟨a0, a1, a2, a3⟩ := four_cell HAa.out.x
                                    obtain ⟨d0, d1, d2, d3⟩ := four_cell HAa.out.v
                                    go_wp2_with fail
                                    refine (refSame_any _ _ _ _ S S wa HAa.out.ax HAa.out.av ⟨HSK.out.small.full, HSK.out.small.data⟩).mono ?_
                                    rintro e wb ⟨rfl, hbb⟩
                                    rw [Sl.same_true rfl]
                                    have HAb := Lib.hid (HAa.out.later hbb)
                                    have HMb := Lib.hid (HMa.out.later hbb)
                                    have HBrb := Lib.hid (HB8.out.trans (HMb.out.bel.mono HB8.out.size))
                                    have HBwb := Lib.hid (HSK.out.bel.trans (HBrb.out.mono HSK.out.bel.size))
                                    clear hbb a0 a1 a2 a3 d0 d1 d2 d3
                                    have hl150 : l.length ≤ 150 := by omega
                                    by_cases hez : (0 : Nat) = 0
                                    · go_wp2_with fail
                                      go_upto_region 38 with (fail)
                                      refine Ord.walk (P38F (SlV S.kind S.next (.slice pc1 S.full.length cc1) (.slice pc2 S.data.length cc2)) (SlV S.kind S.next (.slice pz1 S.full.length cz1) (.slice pz2 S.data.length cz2))) (MvR w.heap.size X Y S S (.slice px1 S.full.length cx1) (.slice px2 S.data.length cx2) (.slice py1 S.full.length cy1) (.slice py2 S.data.length cy2) (.slice pc1 S.full.length cc1) (.slice pc2 S.data.length cc2) (.slice pz1 S.full.length cz1) (.slice pz2 S.data.length cz2) wb) (fun _ _ => True)
                                        (by kernel_rfl) (by kernel_rfl) ?fr38d ?hfr38d (fun _ _ _ _ _ h => h) (fun xs => MvR.first xs HBwb.out.size HSK.out.hx HSK.out.hy HSK.out.ne HAb.out.x HAb.out.y) ?he38d ?hend38d
                                      case hfr38d =>
                                        intro xs
                                        simp only [Ord.fill, Act.put, List.setIfInBounds_toArray, List.set_cons_zero, List.set_cons_succ]
                                        rfl
                                      case he38d =>
                                        refine Ord.each_cons (fun D xs wz hD hC hP hR hA K hK => ?_) ?_
                                        · -- 0
                                          clear hA
                                          have hc := (hR.same C HCX.out.1 HCX.out.2.1 HMb.out.c.lt).trans HMb.out.c
                                          obtain ⟨x0, x1, x2, x3⟩ := four_cell hc
                                          go_simp
                                          exact hK _ _ ⟨_, rfl, trivial, hR.skip _ (by decide), rfl⟩
                                        refine Ord.each_cons (fun D xs wz hD hC hP hR hA K hK => ?_) ?_
                                        · -- 1
                                          clear hA
                                          have hc := (hR.same Z HCX.out.2.2.1 HCX.out.2.2.2 HMb.out.z.lt).trans HMb.out.z
                                          obtain ⟨x0, x1, x2, x3⟩ := four_cell hc
                                          go_simp
                                          exact hK _ _ ⟨_, rfl, trivial, hR.skip _ (by decide), rfl⟩
                                        refine Ord.each_cons (fun D xs wz hD hC hP hR hA K hK => ?_) ?_
                                        · -- 2
                                          have q0 := Ord.ahead_get _ hA 0 (by decide)
                                          simp only [P38F] at q0
                                          simp only [q0] at hK
                                          clear hA
                                          obtain ⟨x0, x1, x2, x3⟩ := four_cell (hR.x0 hD)
                                          obtain ⟨f0, f1, f2, f3⟩ : _ ∧ _ ∧ _ ∧ _ := ⟨four_free (hR.x0 hD) 0, four_free (hR.x0 hD) 1, four_free (hR.x0 hD) 2, four_free (hR.x0 hD) 3⟩
                                          have hst := hR.op2 (u := undef) hD
                                          go_simp
                                          exact hK _ _ ⟨_, rfl, trivial, hst, trivial⟩
                                        refine Ord.each_cons (fun D xs wz hD hC hP hR hA K hK => ?_) ?_
                                        · -- 3
                                          have q1 := Ord.ahead_get _ hA 1 (by decide)
                                          simp only [P38F] at q1
                                          simp only [q1] at hK
                                          clear hA
                                          obtain ⟨x0, x1, x2, x3⟩ := four_cell (hR.y0 hD)
                                          obtain ⟨f0, f1, f2, f3⟩ : _ ∧ _ ∧ _ ∧ _ := ⟨four_free (hR.y0 hD) 0, four_free (hR.y0 hD) 1, four_free (hR.y0 hD) 2, four_free (hR.y0 hD) 3⟩
                                          have hst := hR.op3 (u := undef) hD
                                          go_simp
                                          exact hK _ _ ⟨_, rfl, trivial, hst, trivial⟩
                                        exact Ord.each_nil
                                      case hend38d =>
                                        intro D38 xs38 we hR38 hF38
                                        have HPS2 := Lib.hid (hR38.done (hF38 2 (by decide)).1 (hF38 3 (by decide)).1 HMb.out HBwb.out HST.out)
                                        clear hR38 hF38
                                        generalize xs38 0 = e0 at *
                                        generalize xs38 1 = e1 at *
                                        generalize xs38 2 = e2 at *
                                        generalize xs38 3 = e3 at *
                                        go_wp2_with fail
                                        go_roundw
                                        case rel => exact ⟨k + 1, S, _, _, _, _, by have := HLT.out; omega, by go_num, HPS2.out⟩
                                        case measure => have := HLT.out; simp [intOf]; omega
                                    · exact absurd rfl hez
                    · as_aux_lemma =>
                        have hq0 : (kd == 0) = false := by simpa using h0
                        have hq1 : (kd == 1) = false := by simpa using h1
                        have hq2 : (kd == 2) = false := by simpa using h2
                        have hq3 : (kd == 3) = false := by simpa using h3
                        clear h0 h1 h2 h3
                        have HM := HM11
                        have HRW : Hid (0 < bs.length → Row w11 gb bs.length) := fun h0 => by
                          obtain ⟨g, c, e1, -, -, -, -, e2⟩ := own_some HO11.out h0
                          rw [HG3.out h0] at e1
                          simp only [Value.slice.injEq, Option.some.injEq, Addr.mk.injEq] at e1
                          rw [e1.1.1]; exact e2
                        have HST : Hid (Sl.Small S) := HSK.out.small
                        obtain ⟨pc1, cc1, pc2, cc2, hfc, hdc⟩ := slv_slices HM.out.ec.at
                        obtain ⟨pz1, cz1, pz2, cz2, hfz, hdz⟩ := slv_slices HM.out.ez.at
                        rw [hfc, hdc, hfz, hdz] at HM
                        clear hfc hdc hfz hdz
                        go_wp2_with fail
                        clear hq0 hq1 hq2 hq3
                        go_loopw [21] (fun iv wq => ∃ q : Nat, q ≤ bs.length ∧ iv = .int .i64 q ∧ PlM w8 X Y C Z gb S (.slice pc1 S.full.length cc1) (.slice pc2 S.data.length cc2) (.slice pz1 S.full.length cz1) (.slice pz2 S.data.length cz2) wq ∧ (0 < bs.length → Row wq gb bs.length)) (fun iv _ => bs.length - (intOf iv).toNat)
                        case atStart => exact ⟨0, Nat.zero_le _, rfl, HM.out, HRW.out⟩
                        case round =>
                          obtain ⟨q, hq, rfl, hm, hrw⟩ := hrel
                          have HMq := Lib.hid hm
                          have HRq := Lib.hid hrw
                          clear hm hrw
                          have hbl := HBL.out
                          by_cases hqt : q < bs.length
                          · obtain rfl : p9 = some ⟨gb, 0, none⟩ := HG3.out (by omega)
                            have HR := Lib.hid (HRq.out (by omega))
                            obtain ⟨b0, hb0, hcell⟩ := HR.out.cell q hqt
                            have hfree := HR.out.free q
                            have HQT := Lib.hid hqt
                            have HX8 : Hid ((b0 + 1) % 256 < 256) := Nat.mod_lt _ (by decide)
                            have hk4 : (0 : Int) ≤ (q : Int) := by omega
                            have hk5 : (q : Int) < (bs.length : Int) := by omega
                            have hk6 : 0 + q = q := Nat.zero_add q
                            have HXO : Hid (((b0 : Int) + 1) % 256 = (((b0 + 1) % 256 : Nat) : Int)) := by show _ = _; omega
                            have HWR : Hid (IntKind.u8.wrap ((b0 : Int) + 1) = (((b0 + 1) % 256 : Nat) : Int)) := by
                              show _ = _
                              rw [show IntKind.u8.wrap ((b0 : Int) + 1) = ((b0 : Int) + 1) % 256 by simp [IntKind.wrap, IntKind.bits, IntKind.signed]]
                              omega
                            have hwr := HWR.out
                            go_wp2_with fail
                            rw [HXO.out]
                            go_roundw
                            case rel => exact ⟨q + 1, by have := HQT.out; omega, by go_num, HMq.out.set HR.out (HGW.out (by have := HQT.out; omega)) q _, fun _ => HR.out.set q _ HX8.out⟩
                            case measure => simp [intOf]; omega
                          · obtain rfl : q = bs.length := by omega
                            have HAq := Lib.hid (HA8.out.later HMq.out.bel)
                            obtain ⟨a0, a1, a2, a3⟩ := four_cell HMq.out.c
                            obtain ⟨d0, d1, d2, d3⟩ := four_cell HMq.out.z
                            have hat : ((0 : Int) != (0 : Int)) = false := by simp
                            have her := HLT.out
                            go_wp2_with fail
                            refine (refSame_any _ _ _ _ S S wr HMq.out.ec.at HMq.out.ez.at ⟨HST.out.full, HST.out.data⟩).mono ?_
                            rintro e wa ⟨rfl, hba⟩
                            rw [Sl.same_true rfl]
                            have HAa := Lib.hid (HAq.out.later hba)
                            have HMa := Lib.hid (HMq.out.later hba)
                            clear hba a0 a1 a2 a3 d0 d1 d2 d3 hat her
                            obtain ⟨a0, a1, a2, a3⟩ := four_cell HAa.out.x
                            obtain ⟨d0, d1, d2, d3⟩ := four_cell HAa.out.v
                            go_wp2_with fail
                            refine (refSame_any _ _ _ _ S S wa HAa.out.ax HAa.out.av ⟨HSK.out.small.full, HSK.out.small.data⟩).mono ?_
                            rintro e wb ⟨rfl, hbb⟩
                            rw [Sl.same_true rfl]
                            have HAb := Lib.hid (HAa.out.later hbb)
                            have HMb := Lib.hid (HMa.out.later hbb)
                            have HBrb := Lib.hid (HB8.out.trans (HMb.out.bel.mono HB8.out.size))
                            have HBwb := Lib.hid (HSK.out.bel.trans (HBrb.out.mono HSK.out.bel.size))
                            clear hbb a0 a1 a2 a3 d0 d1 d2 d3
                            have hl150 : l.length ≤ 150 := by omega
                            by_cases hez : (0 : Nat) = 0
                            · go_wp2_with fail
                              go_upto_region 38 with (fail)
                              refine Ord.walk (P38F (SlV S.kind S.next (.slice pc1 S.full.length cc1) (.slice pc2 S.data.length cc2)) (SlV S.kind S.next (.slice pz1 S.full.length cz1) (.slice pz2 S.data.length cz2))) (MvR w.heap.size X Y S S (.slice px1 S.full.length cx1) (.slice px2 S.data.length cx2) (.slice py1 S.full.length cy1) (.slice py2 S.data.length cy2) (.slice pc1 S.full.length cc1) (.slice pc2 S.data.length cc2) (.slice pz1 S.full.length cz1) (.slice pz2 S.data.length cz2) wb) (fun _ _ => True)
                                (by kernel_rfl) (by kernel_rfl) ?fr38e ?hfr38e (fun _ _ _ _ _ h => h) (fun xs => MvR.first xs HBwb.out.size HSK.out.hx HSK.out.hy HSK.out.ne HAb.out.x HAb.out.y) ?he38e ?hend38e
                              case hfr38e =>
                                intro xs
                                simp only [Ord.fill, Act.put, List.setIfInBounds_toArray, List.set_cons_zero, List.set_cons_succ]
                                rfl
                              case he38e =>
                                refine Ord.each_cons (fun D xs wz hD hC hP hR hA K hK => ?_) ?_
                                · -- 0
                                  clear hA
                                  have hc := (hR.same C HCX.out.1 HCX.out.2.1 HMb.out.c.lt).trans HMb.out.c
                                  obtain ⟨x0, x1, x2, x3⟩ := four_cell hc
                                  go_simp
                                  exact hK _ _ ⟨_, rfl, trivial, hR.skip _ (by decide), rfl⟩
                                refine Ord.each_cons (fun D xs wz hD hC hP hR hA K hK => ?_) ?_
                                · -- 1
                                  clear hA
                                  have hc := (hR.same Z HCX.out.2.2.1 HCX.out.2.2.2 HMb.out.z.lt).trans HMb.out.z
                                  obtain ⟨x0, x1, x2, x3⟩ := four_cell hc
                                  go_simp
                                  exact hK _ _ ⟨_, rfl, trivial, hR.skip _ (by decide), rfl⟩
                                refine Ord.each_cons (fun D xs wz hD hC hP hR hA K hK => ?_) ?_
                                · -- 2
                                  have q0 := Ord.ahead_get _ hA 0 (by decide)
                                  simp only [P38F] at q0
                                  simp only [q0] at hK
                                  clear hA
                                  obtain ⟨x0, x1, x2, x3⟩ := four_cell (hR.x0 hD)
                                  obtain ⟨f0, f1, f2, f3⟩ : _ ∧ _ ∧ _ ∧ _ := ⟨four_free (hR.x0 hD) 0, four_free (hR.x0 hD) 1, four_free (hR.x0 hD) 2, four_free (hR.x0 hD) 3⟩
                                  have hst := hR.op2 (u := undef) hD
                                  go_simp
                                  exact hK _ _ ⟨_, rfl, trivial, hst, trivial⟩
                                refine Ord.each_cons (fun D xs wz hD hC hP hR hA K hK => ?_) ?_
                                · -- 3
                                  have q1 := Ord.ahead_get _ hA 1 (by decide)
                                  simp only [P38F] at q1
                                  simp only [q1] at hK
                                  clear hA
                                  obtain ⟨x0, x1, x2, x3⟩ := four_cell (hR.y0 hD)
                                  obtain ⟨f0, f1, f2, f3⟩ : _ ∧ _ ∧ _ ∧ _ := ⟨four_free (hR.y0 hD) 0, four_free (hR.y0 hD) 1, four_free (hR.y0 hD) 2, four_free (hR.y0 hD) 3⟩
                                  have hst := hR.op3 (u := undef) hD
                                  go_simp
                                  exact hK _ _ ⟨_, rfl, trivial, hst, trivial⟩
                                exact Ord.each_nil
                              case hend38e =>
                                intro D38 xs38 we hR38 hF38
                                have HPS2 := Lib.hid (hR38.done (hF38 2 (by decide)).1 (hF38 3 (by decide)).1 HMb.out HBwb.out HST.out)
                                clear hR38 hF38
                                generalize xs38 0 = e0 at *
                                generalize xs38 1 = e1 at *
                                generalize xs38 2 = e2 at *
                                generalize xs38 3 = e3 at *
                                go_wp2_with fail
                                go_roundw
                                case rel => exact ⟨k + 1, S, _, _, _, _, by have := HLT.out; omega, by go_num, HPS2.out⟩
                                case measure => have := HLT.out; simp [intOf]; omega
                            · exact absurd rfl hez
          · obtain rfl : k = l.length := by omega
            go_wp2_with fail
            refine (HKNO.out _).mono ?_
            rintro e wk ⟨rfl, hbk⟩
            have HBK := Lib.hid ((HSK.out.bel).trans (hbk.mono (HSK.out.bel).size))
            clear hbk
            go_wp2_with fail
            go_ret
            exact ⟨rfl, HBK.out⟩
end Go.Proofs.Ytbfpmpomcaijcaa
