/- What the program's Read of slots answers. Conditions: the value reads as bytes. -/
import Derived.Test.YtbfpmpomcaijcaaSpReadR
namespace Go.Proofs.Ytbfpmpomcaijcaa
open Go.RowKit

/-- What the operations left. -/
def R13F (X n : Nat) (mv : Value) (i : Nat) (v : Value) (_ : World) : Prop :=
  match i with
  | 0 => v = mv
  | 1 => v = .int .i64 (n : Int)
  | 3 => v = mv
  | 4 => v = .int .i64 (n : Int)
  | 6 => v = .pointer (some ⟨X, 2, none⟩)
  | 8 => v = .pointer (some ⟨X, 3, none⟩)
  | _ => True
def R21F (X k gf gd n : Nat) (m z : Nat) (x : Bool) (rv sv : Value) (i : Nat) (v : Value) (_ : World) : Prop :=
  match i with
  | 0 => v = .pointer (some ⟨X, 2, none⟩)
  | 1 => v = .slice (some ⟨gf, 0, none⟩) n n
  | 2 => v = .int .i64 (k : Int)
  | 3 => v = .pointer (some ⟨X, 3, none⟩)
  | 4 => v = .slice (some ⟨gd, 0, none⟩) n n
  | 5 => v = .int .i64 (k : Int)
  | 6 => v = .int .i64 (m : Int)
  | 7 => v = .bool x
  | 8 => v = rv
  | 9 => v = .int .i64 (z : Int)
  | 10 => v = sv
  | 12 => v = .pointer (some ⟨gf, k, none⟩)
  | 14 => v = .pointer (some ⟨gd, k, none⟩)
  | _ => True

set_option maxHeartbeats 6400000 in
set_option maxRecDepth 20000 in
theorem pRead_any (m : Value) (b : List Nat) (w : World) (hB : Bts w m b) :
    Calls Try.prog 16 #[m] w fun e w' => ∃ fv' dv' vs', e = .returned (.tuple #[SlV (Sl.readR b).1.kind (Sl.readR b).1.next fv' dv', .int .i64 ((Sl.readR b).2 : Int)]) ∧ SlOwn w.heap.size w' fv' dv' vs' (Sl.readR b).1 ∧ Below w.heap.size w w' := by
  have HBT := Lib.hid hB
  obtain ⟨pm, cm, rfl, hcm, -, hpm⟩ := hB.form
  have HPM := Lib.hid hpm
  have HCM := Lib.hid hcm
  obtain ⟨rr, hrr⟩ : ∃ rr, rr = Sl.readR b := ⟨_, rfl⟩
  rw [← hrr]
  have HRR := Lib.hid hrr
  obtain ⟨V, hV⟩ : ∃ V, V = w.alloc (.cells #[.int .u8 0, .int .u32 0, nilS, nilS] 26) := ⟨_, rfl⟩
  have hbv : Below w.heap.size w V := by rw [hV]; exact below_new _ _
  have hrv : V.heap[w.heap.size]? = some (.cells #[.int .u8 0, .int .u32 0, nilS, nilS] 26 (0, 0)) := by rw [hV]; exact heap_alloc_last _ _
  obtain ⟨R, hR⟩ : ∃ R, R = w.heap.size := ⟨_, rfl⟩
  rw [← hR] at hrv
  have HRE : Hid (w.heap.size ≤ R) := show w.heap.size ≤ R by omega
  have HRV := Lib.hid hrv
  have HBV := Lib.hid hbv
  unfold nilS at hV
  clear hB hcm hpm hrr hbv hrv
  go_enter Try.func16, Try.ntmps16
  go_upto_region 1 with (fail)
  rw [← hV, ← hR]
  clear hV hR
  by_cases h500 : b.length = 500
  · have hi1 : ((b.length : Int) != 500) = false := by rw [h500]; rfl
    have H500 := Lib.hid h500
    have HSMB := Lib.hid HBT.out.small
    clear h500
    go_wp2_with fail
    refine (newReader_any _ _ V (HBT.out.below HBV.out)).mono ?_
    rintro e w1 ⟨B, rfl, hRd, hBR, hb1⟩
    have HRd := Lib.hid hRd
    have HR1 : Hid (w1.heap[R]? = some (.cells #[.int .u8 0, .int .u32 0, nilS, nilS] 26 (0, 0))) := by show _ = _; rw [hb1.block _ (lt_of_block HRV.out)]; exact HRV.out
    have HRB : Hid (R < B) := Nat.lt_of_lt_of_le (lt_of_block HRV.out) hBR
    have HB1 := Lib.hid (HBV.out.trans (hb1.mono HBV.out.size))
    clear hRd hBR hb1
    go_wp2_with fail
    refine (U8_any _ B 0 b w1 HRd.out).mono ?_
    rw [Sl.rd_kind H500.out]
    rintro e w2 ⟨rfl, hR2, hg2⟩
    have HR2 := Lib.hid hR2
    have HG2 := Lib.hid hg2
    clear hR2 hg2
    go_wp2_with fail
    refine (U32_any _ B 0 _ w2 HR2.out).mono ?_
    rw [Sl.rd_next H500.out]
    rintro e w3 ⟨rfl, hR3, hg3⟩
    have hg13 := grownBy_trans HG2.out hg3
    have HB3 := Lib.hid (below_grown HB1.out hg13 HB1.out.size (by have h1 := HRE.out; have h2 := HRB.out; omega))
    have HR33 : Hid (w3.heap[R]? = some (.cells #[.int .u8 0, .int .u32 0, nilS, nilS] 26 (0, 0))) := by
      show _ = _
      rw [hg13.block _ (lt_of_block HR1.out) (fun e => by simp only [Option.some.injEq] at e; have := HRB.out; omega)]; exact HR1.out
    have HR3 := Lib.hid hR3
    obtain ⟨W4, hW4⟩ : ∃ W4, W4 = w3.alloc (.cells #[.int .u8 (Sl.kd b : Int), .int .u32 (Sl.nx b : Int), .slice none 0 0, .slice none 0 0] 26) := ⟨_, rfl⟩
    have hb4 : Below w3.heap.size w3 W4 := by rw [hW4]; exact below_new _ _
    have hx4 : W4.heap[w3.heap.size]? = some (.cells #[.int .u8 (Sl.kd b : Int), .int .u32 (Sl.nx b : Int), nilS, nilS] 26 (0, 0)) := by rw [hW4]; exact heap_alloc_last _ _
    have HBX : Hid (B < w3.heap.size) := HR3.out.lt
    have HR4 := Lib.hid (HR3.out.below hb4)
    have HB4 := Lib.hid (HB3.out.trans (hb4.mono HB3.out.size))
    have HRR4 : Hid (W4.heap[R]? = some (.cells #[.int .u8 0, .int .u32 0, nilS, nilS] 26 (0, 0))) := by show _ = _; rw [hb4.block _ (lt_of_block HR33.out)]; exact HR33.out
    obtain ⟨kd, hkd⟩ : ∃ kd, kd = Sl.kd b := ⟨_, rfl⟩
    obtain ⟨nx, hnx⟩ : ∃ nx, nx = Sl.nx b := ⟨_, rfl⟩
    have HKD := Lib.hid hkd
    have HNX0 := Lib.hid hnx
    clear hR3 hg3 hg13 hb4
    go_upto_region 5 with (fail)
    rw [← hW4]
    rw [← hkd, ← hnx] at hx4
    obtain ⟨X, hX⟩ : ∃ X, X = w3.heap.size := ⟨_, rfl⟩
    rw [← hX] at HBX hx4 ⊢
    have HX4 := Lib.hid hx4
    clear hW4 hX hx4 hkd hnx
    go_wp2_with fail
    refine (U8_any _ B 0 _ W4 HR4.out).mono ?_
    rw [Sl.rd_count H500.out]
    rintro e w5 ⟨rfl, hR5, hg5⟩
    have hn : Sl.cn b < 256 := Sl.cn_lt HSMB.out
    obtain ⟨n, hnn⟩ : ∃ n, n = Sl.cn b := ⟨_, rfl⟩
    rw [← hnn] at hn ⊢
    have HNN := Lib.hid hnn
    have HR5 := Lib.hid hR5
    have HB5 := Lib.hid (below_grown HB4.out hg5 HB4.out.size (by have h1 := HRE.out; have h2 := HRB.out; omega))
    have HX5 : Hid (w5.heap[X]? = some (.cells #[.int .u8 (kd : Int), .int .u32 (nx : Int), nilS, nilS] 26 (0, 0))) := by
      show _ = _
      rw [hg5.block _ (lt_of_block HX4.out) (fun e => by simp only [Option.some.injEq] at e; have := HBX.out; omega)]; exact HX4.out
    have HA5 : Hid (w5.heap[R]? = some (.cells #[.int .u8 0, .int .u32 0, nilS, nilS] 26 (0, 0))) := by
      show _ = _
      rw [hg5.block _ (lt_of_block HRR4.out) (fun e => by simp only [Option.some.injEq] at e; have := HRB.out; omega)]; exact HRR4.out
    clear hnn hR5 hg5
    dsimp only
    go_at_K
    go_step
    refine wpList_plain rfl fun K hK => Ints.wp_make_len (.tmp 24) (.tmp 24) rfl w.heap.size .u8 .u8 n rfl rfl (by omega) HB5.out.size fun w6 hO6 hg6 => hK _ _ ?_
    clear hK
    have hb6 : Below w5.heap.size w5 w6 := (Below.refl _ _).grown hg6 (Nat.le_refl _) (fun i hi => by cases hi)
    obtain ⟨gm, hgm⟩ : ∃ gm, gm = w5.heap.size := ⟨_, rfl⟩
    have hxg : X < w5.heap.size := lt_of_block HX5.out
    rw [← hgm] at hO6 hxg ⊢
    rw [← Sl.mks_zero b n] at hO6
    have HM6 : Hid (MrkR w V.heap.size R B X gm n (.int .u8 (kd : Int)) (.int .u32 (nx : Int)) b 0 w6) :=
      ⟨HR5.out.below hb6, by rw [hb6.block _ (lt_of_block HA5.out)]; exact HA5.out, by rw [hb6.block _ (lt_of_block HX5.out)]; exact HX5.out, hO6, HB5.out.trans (hb6.mono HB5.out.size), HRE.out, HRB.out, HBX.out, hxg⟩
    clear hb6 hO6 hg6 hgm hxg
    have hn4 : n ≤ 255 := by omega
    clear hn
    go_wp2_with fail
    go_loopw [28] (fun i wr => ∃ k : Nat, k ≤ n ∧ i = .int .i64 k ∧ MrkR w V.heap.size R B X gm n (.int .u8 (kd : Int)) (.int .u32 (nx : Int)) b k wr) (fun i _ => n - (intOf i).toNat)
    case atStart => exact ⟨0, Nat.zero_le _, rfl, HM6.out⟩
    case round =>
      obtain ⟨k, hk, rfl, hm⟩ := hrel
      have HM := Lib.hid hm
      clear hm
      by_cases hlt : k < n
      · have HLT := Lib.hid hlt
        have hi : (k : Int) < (n : Int) := by omega
        have hw5 := IntWalk.i64_in ((k : Int) + 1) (by omega)
        have hmk : Sl.mkk b k < 65536 := Sl.mkk_lt HSMB.out k
        have HU := Lib.hid (U16_any _ B _ _ wr HM.out.rd)
        rw [Sl.rd_mark H500.out k] at HU
        obtain ⟨mv, hmv⟩ : ∃ mv, mv = Sl.mkk b k := ⟨_, rfl⟩
        have HMV := Lib.hid hmv
        dsimp only at HU
        rw [← hmv] at HU hmk
        have hw6 := IntWalk.i64_in (mv : Int) (by omega)
        clear hmv hlt
        go_wp2_with fail
        refine HU.out.mono ?_
        rintro e w7 ⟨rfl, hR7, hg7⟩
        obtain ⟨hm8, c0, f0⟩ := HM.out.read hR7 hg7 HLT.out
        rw [← HMV.out] at hm8
        have HM8 := Lib.hid hm8
        clear hR7 hg7 hm8
        generalize (Sl.mks b n k).getD k 0 = oldv at c0
        go_wp2_with fail
        go_roundw
        case rel => exact ⟨k + 1, by have := HLT.out; omega, by go_num, HM8.out⟩
        case measure => have := HLT.out; simp [intOf]; omega
      · obtain rfl : k = n := by omega
        have HER := Lib.hid (err_any _ B _ _ wr HM.out.rd)
        by_cases hmost : k ≤ 247
        · rw [show Sl.ste k = 0 from if_pos hmost] at HER
          have HMO := Lib.hid hmost
          clear hlt hk hmost
          go_wp2_with fail
          refine HER.out.mono ?_
          rintro e w7 ⟨rfl, rfl⟩
          clear HER
          go_upto_region 13 with (fail)
          refine Ord.walk (R13F X k (.slice (some ⟨gm, 0, none⟩) k k)) (MkR X k (.int .u8 (kd : Int)) (.int .u32 (nx : Int)) wr) (fun _ _ => True)
            (by kernel_rfl) (by kernel_rfl) ?fr13 ?hfr13 (fun _ _ _ _ _ h => h) (fun xs => MkR.first xs HM.out.blk) ?he13 ?hend13
          case hfr13 =>
            intro xs
            simp only [Ord.fill, Act.put, List.setIfInBounds_toArray, List.set_cons_zero, List.set_cons_succ]
            rfl
          case he13 =>
            refine Ord.each_cons (fun D xs wz hD hC hP hR hA K hK => ?_) ?_
            · -- 0
              clear hA
              go_simp
              exact hK _ _ ⟨_, rfl, trivial, hR.skip _ (by decide), rfl⟩
            refine Ord.each_cons (fun D xs wz hD hC hP hR hA K hK => ?_) ?_
            · -- 1
              have q0 := Ord.ahead_get _ hA 0 (by decide)
              simp only [R13F] at q0
              simp only [q0] at hK
              clear hA
              go_simp
              exact hK _ _ ⟨_, rfl, trivial, hR.skip _ (by decide), rfl⟩
            refine Ord.each_cons (fun D xs wz hD hC hP hR hA K hK => ?_) ?_
            · -- 2
              have q1 := Ord.ahead_get _ hA 1 (by decide)
              simp only [R13F] at q1
              clear hA
              have h7 : D 7 = false := by
                cases h : D 7
                · rfl
                · have := Ord.closed_at hC 7 2 (by kernel_rfl) h
                  rw [hD] at this; cases this
              refine Bo.wp_make_len (.tmp 43) (.tmp 43) rfl wr.heap.size .i64 .i64 k (by rw [← q1]; rfl) (by rw [← q1]; rfl) (by have := HMO.out; omega) hR.gr.size fun w' hO2 hg2 => ?_
              exact hK _ _ ⟨_, rfl, trivial, hR.op2 h7 rfl hO2 hg2, trivial⟩
            refine Ord.each_cons (fun D xs wz hD hC hP hR hA K hK => ?_) ?_
            · -- 3
              clear hA
              go_simp
              exact hK _ _ ⟨_, rfl, trivial, hR.skip _ (by decide), rfl⟩
            refine Ord.each_cons (fun D xs wz hD hC hP hR hA K hK => ?_) ?_
            · -- 4
              have q3 := Ord.ahead_get _ hA 3 (by decide)
              simp only [R13F] at q3
              simp only [q3] at hK
              clear hA
              go_simp
              exact hK _ _ ⟨_, rfl, trivial, hR.skip _ (by decide), rfl⟩
            refine Ord.each_cons (fun D xs wz hD hC hP hR hA K hK => ?_) ?_
            · -- 5
              have q4 := Ord.ahead_get _ hA 4 (by decide)
              simp only [R13F] at q4
              clear hA
              have h9 : D 9 = false := by
                cases h : D 9
                · rfl
                · have := Ord.closed_at hC 9 5 (by kernel_rfl) h
                  rw [hD] at this; cases this
              refine Sv.wp_make_len (.tmp 46) (.tmp 46) rfl wr.heap.size .i64 .i64 k (by rw [← q4]; rfl) (by rw [← q4]; rfl) (by have := HMO.out; omega) hR.gr.size fun w' hO2 hg2 => ?_
              exact hK _ _ ⟨_, rfl, trivial, hR.op5 h9 rfl hO2 hg2, trivial⟩
            refine Ord.each_cons (fun D xs wz hD hC hP hR hA K hK => ?_) ?_
            · -- 6
              clear hA
              go_simp
              exact hK _ _ ⟨_, rfl, trivial, hR.skip _ (by decide), rfl⟩
            refine Ord.each_cons (fun D xs wz hD hC hP hR hA K hK => ?_) ?_
            · -- 7
              have q6 := Ord.ahead_get _ hA 6 (by decide)
              simp only [R13F] at q6
              simp only [q6] at hK
              clear hA
              have h2 : D 2 = true := hP { on := 2, ground := .data } (by simp) rfl
              obtain ⟨ga, e2, -, -⟩ := hR.a2 h2
              have hst := hR.op7 (u := undef)
              rw [e2] at hst
              simp only [e2] at hK
              obtain ⟨x0, x1, x2, x3⟩ := four_cell hR.blk
              have ff := four_free hR.blk 2
              go_simp
              exact hK _ _ ⟨_, rfl, trivial, hst, trivial⟩
            refine Ord.each_cons (fun D xs wz hD hC hP hR hA K hK => ?_) ?_
            · -- 8
              clear hA
              go_simp
              exact hK _ _ ⟨_, rfl, trivial, hR.skip _ (by decide), rfl⟩
            refine Ord.each_cons (fun D xs wz hD hC hP hR hA K hK => ?_) ?_
            · -- 9
              have q8 := Ord.ahead_get _ hA 8 (by decide)
              simp only [R13F] at q8
              simp only [q8] at hK
              clear hA
              have h5 : D 5 = true := hP { on := 5, ground := .data } (by simp) rfl
              obtain ⟨ga, e5, -, -⟩ := hR.a5 h5
              have hst := hR.op9 (u := undef)
              rw [e5] at hst
              simp only [e5] at hK
              obtain ⟨x0, x1, x2, x3⟩ := four_cell hR.blk
              have ff := four_free hR.blk 3
              go_simp
              exact hK _ _ ⟨_, rfl, trivial, hst, trivial⟩
            exact Ord.each_nil
          case hend13 =>
            intro D5 xs5 WL hR5 hF5
            have hx := hR5.blk
            rw [(hF5 7 (by decide)).1, (hF5 9 (by decide)).1, if_pos rfl, if_pos rfl] at hx
            obtain ⟨gf, e2, hgf, hf⟩ := hR5.a2 (hF5 2 (by decide)).1
            obtain ⟨gd, e5, hgd, hd⟩ := hR5.a5 (hF5 5 (by decide)).1
            have hg := hR5.gr
            rw [e2] at hx hf
            rw [e5] at hx hd
            have HMX := HM.out
            have a1 := HMX.hB
            have a2 := HMX.hX
            have a3 := HMX.hg
            have a4 := HMX.hR
            have hwl : Below w.heap.size w WL := below_grown HMX.bel hg HMX.bel.size (by omega)
            have hoo : Ints.Own w.heap.size WL (.slice (some ⟨gm, 0, none⟩) k k) (Sl.mks b k k) := HMX.own.grown hg (Or.inr (fun e => by simp only [Value.ownBlock, Option.some.injEq] at e; omega))
            have hrr : WL.heap[R]? = some (.cells #[.int .u8 0, .int .u32 0, nilS, nilS] 26 (0, 0)) := by rw [hg.block _ (lt_of_block HMX.ans) (fun e => by simp only [Option.some.injEq] at e; omega)]; exact HMX.ans
            have hxs : X < wr.heap.size := lt_of_block HMX.blk
            have hrs : R < wr.heap.size := lt_of_block HMX.ans
            have hgs : gm < wr.heap.size := (HMX.own.own.lt gm rfl).2
            have hRd := HMX.rd.grown hg (fun g e => by simp only [Option.some.injEq] at e; subst e; exact ⟨fun hh => by omega, by omega⟩)
            obtain ⟨base, hbase⟩ : ∃ base, base = wr.heap.size := ⟨_, rfl⟩
            rw [← hbase] at hgf hf hgd hd hxs hrs hgs
            have HBSW : Hid (base ≤ WL.heap.size) := by show base ≤ _; rw [hbase]; exact hg.size
            have HXRB : Hid (X < base ∧ R < base) := ⟨hxs, hrs⟩
            have HBS : Hid (w.heap.size ≤ base) := by show _ ≤ base; rw [hbase]; exact HMX.bel.size
            have HWL := Lib.hid hwl
            have HGF : Hid (base ≤ gf) := hgf
            have HGD : Hid (base ≤ gd) := hgd
            have HF := Lib.hid hf
            have HD := Lib.hid hd
            have HXL : Hid (∀ w', Below base WL w' → w'.heap[X]? = some (.cells #[.int .u8 (kd : Int), .int .u32 (nx : Int), .slice (some ⟨gf, 0, none⟩) k k, .slice (some ⟨gd, 0, none⟩) k k] 26 (0, 0))) := fun w' hb => by rw [hb.block _ hxs]; exact hx
            have HRL : Hid (∀ w', Below base WL w' → w'.heap[R]? = some (.cells #[.int .u8 0, .int .u32 0, nilS, nilS] 26 (0, 0))) := fun w' hb => by rw [hb.block _ hrs]; exact hrr
            have HML : Hid (∀ w', Below base WL w' → Ints.Own w.heap.size w' (.slice (some ⟨gm, 0, none⟩) k k) (Sl.mks b k k)) := fun w' hb => ⟨by
              obtain ⟨h1, h2⟩ := hoo.own
              refine ⟨h1, ?_⟩
              rcases h2 with h2 | ⟨g', cap, cur, hv, hg', hh, h3⟩
              · exact Or.inl h2
              · simp only [Value.slice.injEq, Option.some.injEq, Addr.mk.injEq] at hv
                obtain ⟨⟨rfl, -, -⟩, -, rfl⟩ := hv
                exact Or.inr ⟨gm, k, cur, by rw [Sl.mks_length], hg', by rw [hb.block _ hgs]; exact hh, h3⟩, hoo.small, hoo.len⟩
            have HLE := Lib.hid (left_any _ B _ _ WL hRd)
            clear hx e2 e5 hgf hf hgd hd hg a1 a2 a3 a4 hwl hoo hrr hxs hrs hgs hRd hbase hR5 hF5 HMX
            generalize xs5 0 = t0 at *
            generalize xs5 1 = t1 at *
            generalize xs5 2 = t2 at *
            generalize xs5 3 = t3 at *
            generalize xs5 4 = t4 at *
            generalize xs5 5 = t5 at *
            generalize xs5 6 = t6 at *
            generalize xs5 7 = t7 at *
            generalize xs5 8 = t8 at *
            generalize xs5 9 = t9 at *
            have hlb : (b.drop (6 + 2 * k)).length = 494 - 2 * k := by rw [List.length_drop, H500.out]; omega
            rw [hlb] at HLE
            have hmo := HMO.out
            obtain ⟨lf, hlf⟩ : ∃ lf, lf = 494 - 2 * k := ⟨_, rfl⟩
            rw [← hlf] at HLE
            obtain ⟨bb, ob, hpe, -⟩ := HPM.out (by rw [H500.out]; decide)
            subst hpe
            have hcm := HCM.out
            rw [H500.out] at hcm ⊢
            obtain ⟨of, hof⟩ : ∃ of, of = 6 + 2 * k := ⟨_, rfl⟩
            have hw9 : IntKind.i64.wrap (500 - (lf : Int)) = (of : Int) := by rw [IntWalk.i64_in _ (by omega)]; omega
            have k1 : (0 : Int) ≤ (of : Int) := by omega
            have k2 : (of : Int) ≤ 500 := by omega
            have k3 : of ≤ 500 := by omega
            have hbf := bts_from HBT.out (n := of) rfl (by rw [H500.out]; exact k3)
            rw [H500.out, hof] at hbf
            have HRS0 : Hid (∃ oo cc, (if cm = of then some (⟨bb, ob, none⟩ : Addr) else some ⟨bb, ob + of, none⟩) = some ⟨bb, oo, none⟩ ∧ cm - of = cc ∧ Bts w (.slice (some ⟨bb, oo, none⟩) (500 - of) cc) (Sl.rs b)) := by
              by_cases e : cm = of
              · refine ⟨ob, _, by rw [if_pos e], rfl, ?_⟩
                rw [← hof, if_pos e] at hbf
                unfold Sl.rs; rw [← HNN.out, ← hof]; exact hbf
              · refine ⟨ob + of, _, by rw [if_neg e], rfl, ?_⟩
                rw [← hof, if_neg e] at hbf
                unfold Sl.rs; rw [← HNN.out, ← hof]; exact hbf
            obtain ⟨oi, ci, hoo, hcc, hrs⟩ := HRS0.out
            have HRS := Lib.hid hrs
            have hrl : 500 - of = (Sl.rs b).length := by unfold Sl.rs; rw [← HNN.out, List.length_drop, H500.out, hof]
            have HRLN := Lib.hid hrl
            have HN2 : Hid (k = Sl.cn b) := HNN.out
            clear hlb hmo hbf hrs HRS0 hrl hlf
            go_wp2_with fail
            refine HLE.out.mono ?_
            rintro e wL2 ⟨rfl, rfl⟩
            clear HLE
            have HOF := Lib.hid hof
            clear hof
            go_upto_region 15 with (fail)
            clear hw9 hcc hoo k1 k2 k3
            have HMO2 : Hid (k ≤ 247) := HMO.out
            go_wp2_with fail
            go_loopw [8, 57] (fun rv iv wx => ∃ (i oo cc L : Nat) (vsi : List Value), i ≤ k ∧ iv = .int .i64 i ∧ rv = .slice (some ⟨bb, oo, none⟩) L cc ∧ L = ((Sl.rs b).drop (Sl.off b i)).length ∧ Sl.off b i ≤ (Sl.rs b).length ∧ Bts w (.slice (some ⟨bb, oo, none⟩) L cc) ((Sl.rs b).drop (Sl.off b i)) ∧ Bo.Own base wx (.slice (some ⟨gf, 0, none⟩) k k) (FB (Sl.fl b i ++ List.replicate (k - i) false)) ∧ DOwn base wx (.slice (some ⟨gd, 0, none⟩) k k) vsi (Sl.dt b i ++ List.replicate (k - i) []) ∧ Below base WL wx) (fun _ iv _ => k - (intOf iv).toNat)
            case atStart => exact ⟨0, oi, ci, 500 - of, _, Nat.zero_le _, rfl, rfl, HRLN.out, Nat.zero_le _, HRS.out, HF.out, HD.out, Below.refl _ _⟩
            case round =>
              clear HRS HF HD
              obtain ⟨i, oo, cc, L, vsi, hik, rfl, rfl, hL, hofl, hrs, hf, hd, hbl⟩ := hrel
              have HRS8 := Lib.hid hrs
              have HF8 := Lib.hid hf
              have HD8 := Lib.hid hd
              have HBL8 := Lib.hid hbl
              have HLL := Lib.hid hL
              have HOFL := Lib.hid hofl
              have HW8 := Lib.hid (HWL.out.trans (hbl.mono HBS.out))
              have HRZ := Lib.hid (HRL.out wr hbl)
              clear hrs hf hd hbl hL hofl
              by_cases hlt : i < k
              · have HLT := Lib.hid hlt
                have hi : (i : Int) < (k : Int) := by omega
                have hw5 := IntWalk.i64_in ((i : Int) + 1) (by omega)
                obtain ⟨c0, -⟩ := (HML.out wr HBL8.out).cellAt (Sl.mks_length b k k) i hlt
                rw [Sl.mks_getD hlt, if_pos hlt] at c0
                have hmk : Sl.mkk b i < 65536 := Sl.mkk_lt HSMB.out i
                obtain ⟨mv, hmv⟩ : ∃ mv, mv = Sl.mkk b i := ⟨_, rfl⟩
                obtain ⟨z, hz⟩ : ∃ z, z = Sl.szz b i := ⟨_, rfl⟩
                have hzm : z = mv - 1 := by rw [hz, hmv]; rfl
                obtain ⟨x, hx⟩ : ∃ x, x = decide (0 < Sl.mkk b i) := ⟨_, rfl⟩
                have HXX : Hid (decide (0 < mv) = x) := by
                  show _ = x
                  rw [hx, ← hmv]
                have HXE := Lib.hid hx
                have HZE := Lib.hid hz
                rw [← hmv] at c0 hmk
                have hw6 := IntWalk.i64_in ((mv : Int) - 1) (by omega)
                have hmx : max ((mv : Int) - 1) 0 = (z : Int) := by omega
                clear hmv hz hx hlt hmk hzm
                by_cases hfit : z ≤ L
                · have hfi : ¬ (L : Int) < (z : Int) := by omega
                  have HFIT := Lib.hid hfit
                  obtain ⟨pz, cz, ez, hcz, -, -⟩ := HRS8.out.form
                  simp only [Value.slice.injEq] at ez
                  obtain ⟨-, -, rfl⟩ := ez
                  have HZC : Hid (z ≤ cc) := by show z ≤ cc; have := HLL.out; omega
                  have hrs2 := HRS8.out
                  have hle := HLL.out
                  rw [hle] at hrs2
                  have htx := hrs2.take z (by rw [← hle]; exact hfit)
                  have HTX : Hid (Bts w (.slice (some ⟨bb, oo, none⟩) z cc) (Sl.tx b i)) := by
                    show Bts _ _ _
                    unfold Sl.tx
                    rw [← HZE.out]; exact htx
                  have hfr := bts_from HRS8.out (n := z) hle (by rw [← hle]; exact hfit)
                  rw [List.drop_drop] at hfr
                  have HNX : Hid (∃ o2 c2, (if cc = z then some (⟨bb, oo, none⟩ : Addr) else some ⟨bb, oo + z, none⟩) = some ⟨bb, o2, none⟩ ∧ cc - z = c2 ∧ Bts w (.slice (some ⟨bb, o2, none⟩) (L - z) c2) ((Sl.rs b).drop (Sl.off b (i + 1)))) := by
                    rw [Sl.off_succ, ← HZE.out]
                    by_cases e : cc = z
                    · rw [if_pos e] at hfr; exact ⟨oo, _, by rw [if_pos e], rfl, hfr⟩
                    · rw [if_neg e] at hfr; exact ⟨oo + z, _, by rw [if_neg e], rfl, hfr⟩
                  have HBG : Hid (base ≤ wr.heap.size) := Nat.le_trans HBSW.out HBL8.out.size
                  have HIF : Hid (i < (Sl.fl b i ++ List.replicate (k - i) false).length) := by show i < _; rw [List.length_append, Sl.fl_length, List.length_replicate]; have := HLT.out; omega
                  have HID : Hid (i < (Sl.dt b i ++ List.replicate (k - i) ([] : List Nat)).length) := by show i < _; rw [List.length_append, Sl.dt_length, List.length_replicate]; have := HLT.out; omega
                  clear hcz hrs2 hle htx hfr hfit
                  go_upto_region 21 with (fail)
                  refine Ord.walk (R21F X i gf gd k mv z x (.slice (some ⟨bb, oo, none⟩) L cc) (.slice (some ⟨bb, oo, none⟩) z cc)) (PsR 11 13 15 base i x gf k k gd k k (Sl.fl b i ++ List.replicate (k - i) false) vsi (Sl.dt b i ++ List.replicate (k - i) []) (Sl.tx b i) wr) (fun _ _ => True)
                    (by kernel_rfl) (by kernel_rfl) ?fr21 ?hfr21 (fun _ _ _ _ _ h => h) (fun xs => PsR.first xs HBG.out HGF.out HGD.out HF8.out HD8.out) ?he21 ?hend21
                  case hfr21 =>
                    intro xs
                    simp only [Ord.fill, Act.put, List.setIfInBounds_toArray, List.set_cons_zero, List.set_cons_succ]
                    rfl
                  case he21 =>
                    refine Ord.each_cons (fun D xs wz hD hC hP hR hA K hK => ?_) ?_
                    · -- 0
                      clear hA
                      go_simp
                      exact hK _ _ ⟨_, rfl, trivial, hR.skip _ (by decide), rfl⟩
                    refine Ord.each_cons (fun D xs wz hD hC hP hR hA K hK => ?_) ?_
                    · -- 1
                      have q0 := Ord.ahead_get _ hA 0 (by decide)
                      simp only [R21F] at q0
                      simp only [q0] at hK
                      clear hA
                      obtain ⟨x0, x1, x2, x3⟩ := four_cell (HXL.out wz (HBL8.out.trans hR.bel))
                      go_simp
                      exact hK _ _ ⟨_, rfl, trivial, hR.skip _ (by decide), rfl⟩
                    refine Ord.each_cons (fun D xs wz hD hC hP hR hA K hK => ?_) ?_
                    · -- 2
                      clear hA
                      go_simp
                      exact hK _ _ ⟨_, rfl, trivial, hR.skip _ (by decide), rfl⟩
                    refine Ord.each_cons (fun D xs wz hD hC hP hR hA K hK => ?_) ?_
                    · -- 3
                      clear hA
                      go_simp
                      exact hK _ _ ⟨_, rfl, trivial, hR.skip _ (by decide), rfl⟩
                    refine Ord.each_cons (fun D xs wz hD hC hP hR hA K hK => ?_) ?_
                    · -- 4
                      have q3 := Ord.ahead_get _ hA 3 (by decide)
                      simp only [R21F] at q3
                      simp only [q3] at hK
                      clear hA
                      obtain ⟨x0, x1, x2, x3⟩ := four_cell (HXL.out wz (HBL8.out.trans hR.bel))
                      go_simp
                      exact hK _ _ ⟨_, rfl, trivial, hR.skip _ (by decide), rfl⟩
                    refine Ord.each_cons (fun D xs wz hD hC hP hR hA K hK => ?_) ?_
                    · -- 5
                      clear hA
                      go_simp
                      exact hK _ _ ⟨_, rfl, trivial, hR.skip _ (by decide), rfl⟩
                    refine Ord.each_cons (fun D xs wz hD hC hP hR hA K hK => ?_) ?_
                    · -- 6
                      clear hA
                      go_simp
                      exact hK _ _ ⟨_, rfl, trivial, hR.skip _ (by decide), rfl⟩
                    refine Ord.each_cons (fun D xs wz hD hC hP hR hA K hK => ?_) ?_
                    · -- 7
                      have q6 := Ord.ahead_get _ hA 6 (by decide)
                      simp only [R21F] at q6
                      simp only [q6] at hK
                      clear hA
                      have hxx := HXX.out
                      go_simp
                      try rw [hxx]
                      exact hK _ _ ⟨_, rfl, trivial, hR.skip _ (by decide), rfl⟩
                    refine Ord.each_cons (fun D xs wz hD hC hP hR hA K hK => ?_) ?_
                    · -- 8
                      clear hA
                      go_simp
                      exact hK _ _ ⟨_, rfl, trivial, hR.skip _ (by decide), rfl⟩
                    refine Ord.each_cons (fun D xs wz hD hC hP hR hA K hK => ?_) ?_
                    · -- 9
                      clear hA
                      go_simp
                      exact hK _ _ ⟨_, rfl, trivial, hR.skip _ (by decide), rfl⟩
                    refine Ord.each_cons (fun D xs wz hD hC hP hR hA K hK => ?_) ?_
                    · -- 10
                      have q8 := Ord.ahead_get _ hA 8 (by decide)
                      simp only [R21F] at q8
                      have q9 := Ord.ahead_get _ hA 9 (by decide)
                      simp only [R21F] at q9
                      simp only [q8, q9] at hK
                      clear hA
                      have k1 : (0 : Int) ≤ (z : Int) := by omega
                      have k2 : z ≤ cc := HZC.out
                      have k3 : (z : Int) ≤ (cc : Int) := by have := HZC.out; omega
                      go_simp
                      exact hK _ _ ⟨_, rfl, trivial, hR.skip _ (by decide), rfl⟩
                    refine Ord.each_cons (fun D xs wz hD hC hP hR hA K hK => ?_) ?_
                    · -- 11
                      have q10 := Ord.ahead_get _ hA 10 (by decide)
                      simp only [R21F] at q10
                      simp only [q10] at hK
                      clear hA
                      have h15 : D 15 = false := by
                        cases h : D 15
                        · rfl
                        · have := Ord.closed_at hC 15 11 (by kernel_rfl) h
                          rw [hD] at this; cases this
                      go_simp
                      refine (clone_any _ _ wz (HTX.out.below (HWL.out.trans ((HBL8.out.trans hR.bel).mono HBS.out)))).mono ?_
                      rintro e w' ⟨u, rfl, hO, hb⟩
                      exact hK _ _ ⟨_, rfl, trivial, hR.call (by decide) h15 hO hb, trivial⟩
                    refine Ord.each_cons (fun D xs wz hD hC hP hR hA K hK => ?_) ?_
                    · -- 12
                      have q1 := Ord.ahead_get _ hA 1 (by decide)
                      simp only [R21F] at q1
                      have q2 := Ord.ahead_get _ hA 2 (by decide)
                      simp only [R21F] at q2
                      simp only [q1, q2] at hK
                      clear hA
                      have k1 : (0 : Int) ≤ (i : Int) := by omega
                      have k2 : (i : Int) < (k : Int) := by have := HLT.out; omega
                      go_simp
                      exact hK _ _ ⟨_, rfl, trivial, hR.skip _ (by decide), rfl⟩
                    refine Ord.each_cons (fun D xs wz hD hC hP hR hA K hK => ?_) ?_
                    · -- 13
                      have q7 := Ord.ahead_get _ hA 7 (by decide)
                      simp only [R21F] at q7
                      have q12 := Ord.ahead_get _ hA 12 (by decide)
                      simp only [R21F] at q12
                      simp only [q7, q12] at hK
                      clear hA
                      obtain ⟨c0, f0⟩ := bown_cell (hR.f0 hD) HIF.out
                      go_simp
                      exact hK _ _ ⟨_, rfl, trivial, hR.flag (u := undef) (by decide) hD, trivial⟩
                    refine Ord.each_cons (fun D xs wz hD hC hP hR hA K hK => ?_) ?_
                    · -- 14
                      have q4 := Ord.ahead_get _ hA 4 (by decide)
                      simp only [R21F] at q4
                      have q5 := Ord.ahead_get _ hA 5 (by decide)
                      simp only [R21F] at q5
                      simp only [q4, q5] at hK
                      clear hA
                      have k1 : (0 : Int) ≤ (i : Int) := by omega
                      have k2 : (i : Int) < (k : Int) := by have := HLT.out; omega
                      go_simp
                      exact hK _ _ ⟨_, rfl, trivial, hR.skip _ (by decide), rfl⟩
                    refine Ord.each_cons (fun D xs wz hD hC hP hR hA K hK => ?_) ?_
                    · -- 15
                      have q14 := Ord.ahead_get _ hA 14 (by decide)
                      simp only [R21F] at q14
                      simp only [q14] at hK
                      clear hA
                      have h11 : D 11 = true := hP { on := 11, ground := .data } (by simp) rfl
                      obtain ⟨p5, n5, e5⟩ := own_slv (hR.cl h11 hD)
                      obtain ⟨c0, f0⟩ := (hR.old hD).cellAt HID.out
                      have hst := hR.text (u := undef) (by decide) h11 hD
                      rw [e5] at hst
                      simp only [e5] at hK
                      go_simp
                      exact hK _ _ ⟨_, rfl, trivial, hst, trivial⟩
                    exact Ord.each_nil
                  case hend21 =>
                    intro D6 xs6 w6 hR6 hF6
                    have hd6 := hR6.new (hF6 15 (by decide)).1
                    have hf6 := hR6.f1 (hF6 13 (by decide)).1
                    have hb6 := HBL8.out.trans hR6.bel
                    rw [Sl.dt_set HLT.out] at hd6
                    rw [HXE.out, Sl.fl_set HLT.out] at hf6
                    have HF6 := Lib.hid hf6
                    have HD6 := Lib.hid hd6
                    have HB6 := Lib.hid hb6
                    clear hd6 hf6 hb6 hR6 hF6
                    generalize hq11 : xs6 11 = y11 at *
                    clear hq11
                    generalize xs6 0 = y0 at *
                    generalize xs6 1 = y1 at *
                    generalize xs6 2 = y2 at *
                    generalize xs6 3 = y3 at *
                    generalize xs6 4 = y4 at *
                    generalize xs6 5 = y5 at *
                    generalize xs6 6 = y6 at *
                    generalize xs6 7 = y7 at *
                    generalize xs6 8 = y8 at *
                    generalize xs6 9 = y9 at *
                    generalize xs6 10 = y10 at *
                    generalize xs6 12 = y12 at *
                    generalize xs6 13 = y13 at *
                    generalize xs6 14 = y14 at *
                    generalize xs6 15 = y15 at *
                    obtain ⟨o2, c2, ho2, hc2, hr2⟩ := HNX.out
                    have HR9 := Lib.hid hr2
                    have k1 : (0 : Int) ≤ (z : Int) := by omega
                    have k2 : z ≤ L := HFIT.out
                    have k3 : (z : Int) ≤ (L : Int) := by omega
                    clear hr2 HNX
                    go_upto_region 23 with (fail)
                    clear ho2 hc2
                    go_wp2_with fail
                    go_roundw
                    case rel => exact ⟨i + 1, o2, c2, L - z, _, by have := HLT.out; omega, by go_num, rfl, by have h1 := HLL.out; have h2 := HZE.out; rw [List.length_drop] at h1 ⊢; rw [Sl.off_succ]; omega, by have h1 := HLL.out; have h2 := HZE.out; have h3 := HFIT.out; rw [List.length_drop] at h1; rw [Sl.off_succ]; have := HOFL.out; omega, HR9.out, HF6.out, HD6.out, HB6.out⟩
                    case measure => have := HLT.out; simp [intOf]; omega
                · have hfi : (L : Int) < (z : Int) := by omega
                  have HFIT : Hid (L < z) := by show L < z; omega
                  clear hfit
                  have HV : Hid (rr = (Sl.none_, 4)) := by
                    show rr = _
                    rw [HRR.out]
                    exact Sl.readR_bad (fun hg => by
                      have h1 := hg.fit
                      rw [← HN2.out] at h1
                      have h2 := Sl.off_mono b (show i + 1 ≤ k from HLT.out)
                      rw [Sl.off_succ, ← HZE.out] at h2
                      have h3 := HLL.out
                      rw [List.length_drop] at h3
                      have h4 := HFIT.out
                      have h5 := HOFL.out
                      omega)
                  obtain ⟨f0, f1, f2, f3⟩ : _ ∧ _ ∧ _ ∧ _ := ⟨four_free HRZ.out 0, four_free HRZ.out 1, four_free HRZ.out 2, four_free HRZ.out 3⟩
                  obtain ⟨g0, g1, g2, g3⟩ := four_cell HRZ.out
                  obtain ⟨d1, d2⟩ := set4all (x := .int .u8 0) (y := .int .u32 0) (z := nilS) (u := nilS) HRZ.out
                  obtain ⟨r0, r1, r2, r3⟩ := four_cell d1
                  have D2 := Lib.hid d2
                  have D3 := Lib.hid (below_grown HW8.out d2 HW8.out.size (by have := HRE.out; omega))
                  clear d1 d2
                  go_wp2_with fail
                  refine bodyPost_ret (v := .tuple #[SlV 0 0 nilS nilS, .int .i64 4]) (by simp [results, Try.results16, go_sem, r0, r1, r2, r3]) rfl ?_
                  refine ⟨nilS, nilS, [], by rw [HV.out]; rfl, ?_, D3.out⟩
                  rw [HV.out]
                  exact ⟨Bo.own_nil _ _, down_nil _ _, by decide, by decide⟩
              · obtain rfl : i = k := by omega
                have hf2 := HF8.out
                rw [Nat.sub_self, List.replicate_zero, List.append_nil] at hf2
                have hd2 := HD8.out
                rw [Nat.sub_self, List.replicate_zero, List.append_nil] at hd2
                have HFZ := Lib.hid hf2
                have HDZ := Lib.hid hd2
                have HTR := Lib.hid (fun q => calls_quiet (trimmed_any _ _ (wr.drewN q) (hf2.bts.below (below_drewN _ _ q))))
                have HNO := Lib.hid (fun q => calls_quiet (noughts_any _ _ (wr.drewN q) (HRS8.out.below (HW8.out.trans (below_drewN _ _ q)))))
                obtain ⟨q0, q1, q2, q3⟩ := four_cell (HXL.out wr HBL8.out)
                have HWN : Hid (∀ q, Below w.heap.size w (wr.drewN q)) := fun q => HW8.out.trans (below_drewN _ _ q)
                have HRN : Hid (∀ q, (wr.drewN q).heap[R]? = some (.cells #[.int .u8 0, .int .u32 0, nilS, nilS] 26 (0, 0))) := fun q => HRZ.out
                have HXN : Hid (∀ q, (wr.drewN q).heap[X]? = some (.cells #[.int .u8 (kd : Int), .int .u32 (nx : Int), .slice (some ⟨gf, 0, none⟩) i i, .slice (some ⟨gd, 0, none⟩) i i] 26 (0, 0))) := fun q => HXL.out wr HBL8.out
                have HFN : Hid (∀ q, Bo.Own base (wr.drewN q) (.slice (some ⟨gf, 0, none⟩) i i) (FB (Sl.fl b i))) := fun q => hf2.below (below_drewN _ _ q)
                have HDN : Hid (∀ q, DOwn base (wr.drewN q) (.slice (some ⟨gd, 0, none⟩) i i) vsi (Sl.dt b i)) := fun q => hd2.below (below_drewN _ _ q)
                rw [Sl.fl_length] at HTR
                clear hf2 hd2 hlt hik
                obtain ⟨tn, htn⟩ : ∃ tn, tn = Sl.trimN (Sl.fl b i) i := ⟨_, rfl⟩
                obtain ⟨zv, hzv⟩ : ∃ zv, zv = Sl.zeros ((Sl.rs b).drop (Sl.off b i)) := ⟨_, rfl⟩
                rw [← htn] at HTR
                rw [← hzv] at HNO
                have HTN := Lib.hid htn
                have HZV := Lib.hid hzv
                clear htn hzv
                by_cases ht : tn = i
                · have hi3 : ((tn : Int) != (i : Int)) = false := by rw [ht]; simp
                  have HTI := Lib.hid ht
                  clear ht
                  cases zv with
                  | true =>
                    go_upto_region 24 with (fail)
                    go_quiet ((with_reducible first | (go_at_call 31; exact HTR.out _) | (go_at_call 40; exact HNO.out _)))
                    have HWQ := Lib.hid (HWN.out nq)
                    have HRQ := Lib.hid (HRN.out nq)
                    have HXQ := Lib.hid (HXN.out nq)
                    have HFQ := Lib.hid (HFN.out nq)
                    have HDQ := Lib.hid (HDN.out nq)
                    clear HWN HRN HXN HFN HDN HTR HNO q0 q1 q2 q3
                    generalize wr.drewN nq = wz at *
                    have HGO : Hid (Sl.Good b) := ⟨H500.out, by rw [← HN2.out]; exact HMO2.out, by rw [← HN2.out]; exact HOFL.out, by rw [← HN2.out, ← HTN.out]; exact HTI.out, by rw [← HN2.out]; exact HZV.out.symm⟩
                    have HV : Hid (rr = (Sl.sof b, 0)) := by
                      show rr = _
                      rw [HRR.out]
                      exact Sl.readR_good HGO.out HSMB.out
                    have HXB : Hid (X < base ∧ R < base) := HXRB.out
                    obtain ⟨q0, q1, q2, q3⟩ := four_cell HXQ.out
                    obtain ⟨f0, f1, f2, f3⟩ : _ ∧ _ ∧ _ ∧ _ := ⟨four_free HRQ.out 0, four_free HRQ.out 1, four_free HRQ.out 2, four_free HRQ.out 3⟩
                    obtain ⟨g0, g1, g2, g3⟩ := four_cell HRQ.out
                    obtain ⟨d1, d2⟩ := set4all (x := .int .u8 (kd : Int)) (y := .int .u32 (nx : Int)) (z := .slice (some ⟨gf, 0, none⟩) i i) (u := .slice (some ⟨gd, 0, none⟩) i i) HRQ.out
                    obtain ⟨r0, r1, r2, r3⟩ := four_cell d1
                    have D2 := Lib.hid d2
                    have D3 := Lib.hid (below_grown HWQ.out d2 HWQ.out.size (by have := HRE.out; omega))
                    clear d1 d2
                    go_wp2_with fail
                    refine bodyPost_ret (v := .tuple #[SlV kd nx (.slice (some ⟨gf, 0, none⟩) i i) (.slice (some ⟨gd, 0, none⟩) i i), .int .i64 0]) (by simp [results, Try.results16, go_sem, r0, r1, r2, r3]) rfl ?_
                    refine ⟨_, _, vsi, by rw [HV.out, HKD.out, HNX0.out]; rfl, ?_, D3.out⟩
                    rw [HV.out]
                    have hso : SlOwn base wz (.slice (some ⟨gf, 0, none⟩) i i) (.slice (some ⟨gd, 0, none⟩) i i) vsi (Sl.sof b) := ⟨by show Bo.Own _ _ _ (FB (Sl.fl b (Sl.cn b))); rw [← HN2.out]; exact HFQ.out, by show DOwn _ _ _ _ (Sl.dt b (Sl.cn b)); rw [← HN2.out]; exact HDQ.out, Sl.kd_lt HSMB.out, Sl.nx_lt HSMB.out⟩
                    exact (hso.blk HRQ.out D2.out).from HBS.out
                  | false =>
                    go_upto_region 24 with (fail)
                    go_quiet ((with_reducible first | (go_at_call 31; exact HTR.out _) | (go_at_call 40; exact HNO.out _)))
                    have HWQ := Lib.hid (HWN.out nq)
                    have HRQ := Lib.hid (HRN.out nq)
                    clear HWN HRN HXN HFN HDN HTR HNO q0 q1 q2 q3
                    generalize wr.drewN nq = wz at *
                    have HV : Hid (rr = (Sl.none_, 4)) := by
                      show rr = _
                      rw [HRR.out]
                      exact Sl.readR_bad (fun hg => by
                        have h1 := hg.rest
                        rw [← HN2.out] at h1
                        have h2 := HZV.out
                        unfold Sl.zeros at h2
                        rw [h1] at h2
                        cases h2)
                    obtain ⟨f0, f1, f2, f3⟩ : _ ∧ _ ∧ _ ∧ _ := ⟨four_free HRQ.out 0, four_free HRQ.out 1, four_free HRQ.out 2, four_free HRQ.out 3⟩
                    obtain ⟨g0, g1, g2, g3⟩ := four_cell HRQ.out
                    obtain ⟨d1, d2⟩ := set4all (x := .int .u8 0) (y := .int .u32 0) (z := nilS) (u := nilS) HRQ.out
                    obtain ⟨r0, r1, r2, r3⟩ := four_cell d1
                    have D2 := Lib.hid d2
                    have D3 := Lib.hid (below_grown HWQ.out d2 HWQ.out.size (by have := HRE.out; omega))
                    clear d1 d2
                    go_wp2_with fail
                    refine bodyPost_ret (v := .tuple #[SlV 0 0 nilS nilS, .int .i64 4]) (by simp [results, Try.results16, go_sem, r0, r1, r2, r3]) rfl ?_
                    refine ⟨nilS, nilS, [], by rw [HV.out]; rfl, ?_, D3.out⟩
                    rw [HV.out]
                    exact ⟨Bo.own_nil _ _, down_nil _ _, by decide, by decide⟩
                · have hi3 : ((tn : Int) != (i : Int)) = true := by simp; omega
                  have HTI : Hid (¬ tn = i) := ht
                  clear ht
                  go_upto_region 24 with (fail)
                  go_quiet ((with_reducible first | (go_at_call 31; exact HTR.out _) | (go_at_call 40; exact HNO.out _)))
                  have HWQ := Lib.hid (HWN.out nq)
                  have HRQ := Lib.hid (HRN.out nq)
                  clear HWN HRN HXN HFN HDN HTR HNO q0 q1 q2 q3
                  generalize wr.drewN nq = wz at *
                  have HV : Hid (rr = (Sl.none_, 4)) := by
                    show rr = _
                    rw [HRR.out]
                    exact Sl.readR_bad (fun hg => by
                      have h1 := hg.trim
                      rw [← HN2.out, ← HTN.out] at h1
                      exact HTI.out h1)
                  obtain ⟨f0, f1, f2, f3⟩ : _ ∧ _ ∧ _ ∧ _ := ⟨four_free HRQ.out 0, four_free HRQ.out 1, four_free HRQ.out 2, four_free HRQ.out 3⟩
                  obtain ⟨g0, g1, g2, g3⟩ := four_cell HRQ.out
                  obtain ⟨d1, d2⟩ := set4all (x := .int .u8 0) (y := .int .u32 0) (z := nilS) (u := nilS) HRQ.out
                  obtain ⟨r0, r1, r2, r3⟩ := four_cell d1
                  have D2 := Lib.hid d2
                  have D3 := Lib.hid (below_grown HWQ.out d2 HWQ.out.size (by have := HRE.out; omega))
                  clear d1 d2
                  go_wp2_with fail
                  refine bodyPost_ret (v := .tuple #[SlV 0 0 nilS nilS, .int .i64 4]) (by simp [results, Try.results16, go_sem, r0, r1, r2, r3]) rfl ?_
                  refine ⟨nilS, nilS, [], by rw [HV.out]; rfl, ?_, D3.out⟩
                  rw [HV.out]
                  exact ⟨Bo.own_nil _ _, down_nil _ _, by decide, by decide⟩
        · have hst : Sl.ste k = 4 := if_neg hmost
          rw [hst] at HER
          clear hlt hk
          have HMO : Hid (¬ k ≤ 247) := hmost
          clear hmost hst
          go_wp2_with fail
          refine HER.out.mono ?_
          rintro e w7 ⟨rfl, rfl⟩
          have HV : Hid (rr = (Sl.none_, 4)) := by
            show rr = _
            rw [HRR.out]
            exact Sl.readR_bad (fun hg => HMO.out (by have := hg.most; rw [← HNN.out] at this; exact this))
          obtain ⟨f0, f1, f2, f3⟩ : _ ∧ _ ∧ _ ∧ _ := ⟨four_free HM.out.ans 0, four_free HM.out.ans 1, four_free HM.out.ans 2, four_free HM.out.ans 3⟩
          obtain ⟨g0, g1, g2, g3⟩ := four_cell HM.out.ans
          obtain ⟨d1, d2⟩ := set4all (x := .int .u8 0) (y := .int .u32 0) (z := nilS) (u := nilS) HM.out.ans
          obtain ⟨r0, r1, r2, r3⟩ := four_cell d1
          have D2 := Lib.hid d2
          have D3 := Lib.hid (below_grown HM.out.bel d2 HM.out.bel.size (by have := HRE.out; omega))
          clear d1 d2
          go_wp2_with fail
          refine bodyPost_ret (v := .tuple #[SlV 0 0 nilS nilS, .int .i64 4]) (by simp [results, Try.results16, go_sem, r0, r1, r2, r3]) rfl ?_
          refine ⟨nilS, nilS, [], by rw [HV.out]; rfl, ?_, D3.out⟩
          rw [HV.out]
          exact ⟨Bo.own_nil _ _, down_nil _ _, by decide, by decide⟩
  · have hi1 : ((b.length : Int) != 500) = true := by simp; omega
    have H500 : Hid (¬ b.length = 500) := h500
    clear h500
    have HV : Hid (rr = (Sl.none_, 4)) := by
      show rr = _
      rw [HRR.out]
      exact Sl.readR_bad (fun hg => H500.out hg.len)
    obtain ⟨f0, f1, f2, f3⟩ : _ ∧ _ ∧ _ ∧ _ := ⟨four_free HRV.out 0, four_free HRV.out 1, four_free HRV.out 2, four_free HRV.out 3⟩
    obtain ⟨g0, g1, g2, g3⟩ := four_cell HRV.out
    obtain ⟨d1, d2⟩ := set4all (x := .int .u8 0) (y := .int .u32 0) (z := nilS) (u := nilS) HRV.out
    obtain ⟨r0, r1, r2, r3⟩ := four_cell d1
    have D2 := Lib.hid d2
    have D3 := Lib.hid (below_grown HBV.out d2 HBV.out.size (by have := HRE.out; omega))
    clear d1 d2
    go_wp2_with fail
    refine bodyPost_ret (v := .tuple #[SlV 0 0 nilS nilS, .int .i64 4]) (by simp [results, Try.results16, go_sem, r0, r1, r2, r3]) rfl ?_
    refine ⟨nilS, nilS, [], by rw [HV.out]; rfl, ?_, D3.out⟩
    rw [HV.out]
    exact ⟨Bo.own_nil _ _, down_nil _ _, by decide, by decide⟩
end Go.Proofs.Ytbfpmpomcaijcaa
