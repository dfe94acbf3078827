/- Parts of a proof. Conditions: as each row says. -/
import Derived.Test.YtbpodmallknhfaaGreatAr09
import Derived.Test.YtbpodmallknhfaaGreatAr11
import Derived.Test.YtbpodmallknhfaaGreatAr15
import Derived.Test.YtbpodmallknhfaaGreatAr21
import Derived.Test.YtbpodmallknhfaaGreatAr22
import Derived.Test.YtbpodmallknhfaaGreatAr14
import Derived.Test.YtbpodmallknhfaaGreatAr13
import Derived.Test.YtbpodmallknhfaaGreatAr08
import Derived.Laws.StructEq
namespace Go.Proofs.YtbpodmallknhfaaGreat
open Go.RowKit
def WpF (B L g σ W : Nat) (b : List Nat) (i : Nat) (v : Value) (w : World) : Prop :=
  match i with
  | 0 => v = .pointer (some ⟨L, 0, none⟩)
  | 1 => v = .pointer (some ⟨L, 0, none⟩)
  | 2 => v = .pointer (some ⟨L, 4, none⟩)
  | 3 => v = .pointer (some ⟨B, 0, none⟩)
  | 4 => v = .pointer (some ⟨L, 0, none⟩)
  | 5 => v = .int .u64 (g : Int)
  | 6 => v = .int .i64 (σ : Int)
  | 7 => RdA W w v b
  | 8 => RdA W w v b
  | 9 => Mine W w v b
  | 10 => v = .int .i64 0
  | 11 => Mine W w v b
  | 12 => v = .int .i64 0
  | _ => True
theorem WpF_later (B L g σ W : Nat) (b : List Nat) (i : Nat) (v : Value) (w w' : World) (hb : Below w.heap.size w w') (h : WpF B L g σ W b i v w) : WpF B L g σ W b i v w' := by
  unfold WpF at *
  split at h <;> first | exact h | exact h.below hb | trivial
set_option maxHeartbeats 3200000 in
set_option maxRecDepth 20000 in
theorem wlWipe_any {w : World} {L B a c m1 m2 : Nat} {k0 : Wl.Kn} {pl wa : Value} {dn : Bool} {d : Dk.Dev} (h : LogAt w L k0 B a c pl wa dn) (hP : PDev w B m1 m2 d) (ho : d.off = false) (hc1 : 1 ≤ c) (hc2 : c ≤ 8192) (hfit : a + c + 2 ≤ Dk.size d) (hz : ∀ i, i < Dk.size d → Wl.eff d i = Dk.blank) :
    Calls Tryz.prog 67 #[.pointer (some ⟨L, 0, none⟩)] w fun e w' => e = .returned (.int .i64 0) ∧ Below w.heap.size w w' := by
  have HLG := Lib.hid h
  have HPD := Lib.hid hP
  have HOF := Lib.hid ho
  have HC : Hid (1 ≤ c ∧ c ≤ 8192) := ⟨hc1, hc2⟩
  have hsz := hP.own.size
  have HFT := Lib.hid hfit
  have HA : Hid (a ≤ 65536) := by show _ ≤ _; omega
  have HZ := Lib.hid hz
  have hmk := wb_run 128 (by decide) w
  have hwb := wb_own 128 (by decide) w
  have hbn := below_new1 w (.cells (bytesV (Wl.zeros 128)).toArray 5)
  obtain ⟨z1, hz1⟩ : ∃ z, z = w.alloc (.cells (bytesV (Wl.zeros 128)).toArray 5) := ⟨_, rfl⟩
  obtain ⟨G, hG⟩ : ∃ g, g = w.heap.size := ⟨_, rfl⟩
  rw [← hz1, ← hG, show ((128 : Nat) : Int) = 128 from rfl] at hmk
  rw [← hz1] at hwb hbn
  have HB0 := Lib.hid hbn
  have HO0 := Lib.hid hwb
  obtain ⟨n2, hn2⟩ : ∃ n, n = 2 * c := ⟨_, rfl⟩
  have hhal := fun wr (hl : LogAt wr L k0 B a c pl wa dn) => wlHalves_any hl hc2
  rw [← hn2] at hhal
  rw [← hG] at HO0
  have HHAL := Lib.hid hhal
  have HN2 := Lib.hid hn2
  have HGW := Lib.hid hG
  clear h hP ho hc1 hc2 hfit hz hsz hwb hbn hz1 hn2 hhal hG
  go_enter Tryz.func67, Tryz.ntmps67
  go_upto_region 2 with (fail)
  clear hmk
  go_wp2_with fail
  go_loopw [4] (fun i wr => ∃ j : Nat, j ≤ c ∧ i = .int .u64 ((2 * j : Nat) : Int) ∧ Below z1.heap.size z1 wr) (fun i _ => 2 * c + 2 - (intOf i).toNat)
  case atStart => exact ⟨0, Nat.zero_le _, rfl, Below.refl _ _⟩
  case round =>
    obtain ⟨j, hj, rfl, hb⟩ := hrel
    have HB1 := Lib.hid (HB0.out.trans (hb.mono HB0.out.size))
    have HO1 := Lib.hid (HO0.out.below hb)
    have HBR := Lib.hid hb
    have HLW := Lib.hid (HLG.out.below HB1.out)
    have HPW := Lib.hid (HPD.out.below HB1.out)
    have HCL := Lib.hid (HHAL.out wr HLW.out)
    have HLT : Hid (L < wr.heap.size) := HLW.out.lt
    have C4 := Lib.hid (HLW.out.cell 4 (v := .pointer (some ⟨B, 0, none⟩)) rfl)
    obtain ⟨g, hg⟩ : ∃ g, g = 2 * j := ⟨_, rfl⟩
    rw [← hg]
    have HGJ := Lib.hid hg
    have HJ := Lib.hid hj
    clear hb hj hg
    by_cases hlt : g < n2
    · have hi : (g : Int) < (n2 : Int) := by omega
      have HSZ : Hid (a + 2 + g % (2 * c) / 2 < Dk.size d) := by
        have h1 := Wl.sec_lt (n := c) (h := g) HC.out.1
        have h2 := HFT.out
        show _ < _
        omega
      have HEF : Hid (Wl.eff d (a + 2 + g % (2 * c) / 2) = Dk.blank) := HZ.out _ HSZ.out
      have HGL : Hid (g < n2) := hlt
      have h6 := IntWalk.u64_in ((g : Int) + 2) (by have h1 := HN2.out; have h2 := HC.out; omega)
      clear hlt
      go_upto_region 5 with (go_at_call 87; refine HCL.out.mono ?_; rintro e w' ⟨rfl, rfl⟩)
      clear HCL
      refine Ord.walk (WpF B L g (a + 2 + g % (2 * c) / 2) wr.heap.size Dk.blank) (fun _ _ w' => Below wr.heap.size wr w') (fun a b => Below a.heap.size a b)
        (by kernel_rfl) (by kernel_rfl) ?fra ?hfra (fun i v w w' hb h => WpF_later _ _ _ _ _ _ i v w w' hb h) (fun xs => (Below.refl _ _).go1) ?hea ?henda
      case hfra =>
        intro xs
        simp only [Ord.fill, Act.put, List.setIfInBounds_toArray, List.set_cons_zero, List.set_cons_succ]
        rfl
      case hea =>
        refine Ord.each_cons (fun D xs w2 hD hC hP hR hA K hK => ?_) ?_
        ·
          clear hA
          go_simp
          exact hK _ _ ⟨_, rfl, Below.refl _ _, hR, rfl⟩
        refine Ord.each_cons (fun D xs w2 hD hC hP hR hA K hK => ?_) ?_
        ·
          have q0 := Ord.ahead_get _ hA 0 (by decide)
          simp only [WpF] at q0
          simp only [q0] at hK
          clear hA
          go_simp
          exact hK _ _ ⟨_, rfl, Below.refl _ _, hR, rfl⟩
        refine Ord.each_cons (fun D xs w2 hD hC hP hR hA K hK => ?_) ?_
        ·
          have q1 := Ord.ahead_get _ hA 1 (by decide)
          simp only [WpF] at q1
          simp only [q1] at hK
          clear hA
          go_simp
          exact hK _ _ ⟨_, rfl, Below.refl _ _, hR, rfl⟩
        refine Ord.each_cons (fun D xs w2 hD hC hP hR hA K hK => ?_) ?_
        ·
          have q2 := Ord.ahead_get _ hA 2 (by decide)
          simp only [WpF] at q2
          simp only [q2] at hK
          clear hA
          have cc := hR.cell (p := ⟨L, 4, none⟩) HLT.out
          rw [C4.out] at cc
          go_simp
          exact hK _ _ ⟨_, rfl, Below.refl _ _, hR, rfl⟩
        refine Ord.each_cons (fun D xs w2 hD hC hP hR hA K hK => ?_) ?_
        ·
          clear hA
          go_simp
          exact hK _ _ ⟨_, rfl, Below.refl _ _, hR, rfl⟩
        refine Ord.each_cons (fun D xs w2 hD hC hP hR hA K hK => ?_) ?_
        ·
          clear hA
          go_simp
          exact hK _ _ ⟨_, rfl, Below.refl _ _, hR, rfl⟩
        refine Ord.each_cons (fun D xs w2 hD hC hP hR hA K hK => ?_) ?_
        ·
          have q4 := Ord.ahead_get _ hA 4 (by decide)
          simp only [WpF] at q4
          have q5 := Ord.ahead_get _ hA 5 (by decide)
          simp only [WpF] at q5
          simp only [q4, q5] at hK
          clear hA
          go_simp
          refine (wlSector_any (HLW.out.below hR) g HC.out.1 HC.out.2 HA.out).mono ?_
          rintro e w' ⟨rfl, q, rfl⟩
          exact hK _ _ ⟨_, rfl, below_drewN _ _ _, hR.trans (below_drewN _ _ _), rfl⟩
        refine Ord.each_cons (fun D xs w2 hD hC hP hR hA K hK => ?_) ?_
        ·
          have q3 := Ord.ahead_get _ hA 3 (by decide)
          simp only [WpF] at q3
          have q6 := Ord.ahead_get _ hA 6 (by decide)
          simp only [WpF] at q6
          simp only [q3, q6] at hK
          clear hA
          have hrd := wlRead_any (HPW.out.below hR) HOF.out HSZ.out
          rw [HEF.out] at hrd
          go_simp
          refine hrd.mono ?_
          rintro e w' ⟨u, rfl, hM, hb⟩
          exact hK _ _ ⟨_, rfl, hb, hR.trans (hb.mono hR.size), u, rfl, hM.from hR.size⟩
        refine Ord.each_cons (fun D xs w2 hD hC hP hR hA K hK => ?_) ?_
        ·
          have q7 := Ord.ahead_get _ hA 7 (by decide)
          simp only [WpF] at q7
          clear hA
          go_simp
          exact hK _ _ ⟨_, rfl, Below.refl _ _, hR, q7⟩
        refine Ord.each_cons (fun D xs w2 hD hC hP hR hA K hK => ?_) ?_
        ·
          have q8 := Ord.ahead_get _ hA 8 (by decide)
          simp only [WpF] at q8
          obtain ⟨u8, e8, m8⟩ := q8
          clear hA
          rw [e8] at hK ⊢
          go_simp
          exact hK _ _ ⟨_, rfl, Below.refl _ _, hR, m8⟩
        refine Ord.each_cons (fun D xs w2 hD hC hP hR hA K hK => ?_) ?_
        ·
          have q8 := Ord.ahead_get _ hA 8 (by decide)
          simp only [WpF] at q8
          obtain ⟨u8, e8, m8⟩ := q8
          clear hA
          rw [e8] at hK ⊢
          go_simp
          exact hK _ _ ⟨_, rfl, Below.refl _ _, hR, rfl⟩
        refine Ord.each_cons (fun D xs w2 hD hC hP hR hA K hK => ?_) ?_
        ·
          have q9 := Ord.ahead_get _ hA 9 (by decide)
          simp only [WpF] at q9
          clear hA
          go_simp
          exact hK _ _ ⟨_, rfl, Below.refl _ _, hR, q9⟩
        refine Ord.each_cons (fun D xs w2 hD hC hP hR hA K hK => ?_) ?_
        ·
          have q10 := Ord.ahead_get _ hA 10 (by decide)
          simp only [WpF] at q10
          simp only [q10] at hK
          clear hA
          go_simp
          exact hK _ _ ⟨_, rfl, Below.refl _ _, hR, rfl⟩
        exact Ord.each_nil
      case henda =>
        intro D xs w9 hR hF
        have e0 := (hF 0 (by decide)).2
        have e1 := (hF 1 (by decide)).2
        have e2 := (hF 2 (by decide)).2
        have e3 := (hF 3 (by decide)).2
        have e4 := (hF 4 (by decide)).2
        have e5 := (hF 5 (by decide)).2
        have e6 := (hF 6 (by decide)).2
        have e10 := (hF 10 (by decide)).2
        have e12 := (hF 12 (by decide)).2
        have hO11 := (hF 11 (by decide)).2
        simp only [WpF] at e0 e1 e2 e3 e4 e5 e6 e10 e12 hO11
        rw [e0]
        rw [e1]
        rw [e2]
        rw [e3]
        rw [e4]
        rw [e5]
        rw [e6]
        rw [e10]
        rw [e12]
        clear e0 e1 e2 e3 e4 e5 e6 e10 e12
        clear hF
        generalize xs 7 = x7 at *
        generalize xs 8 = x8 at *
        generalize xs 9 = x9 at *
        generalize xs 11 = x11 at *
        have HM := Lib.hid hO11
        have HR9 := Lib.hid hR
        clear hR hO11
        obtain ⟨gb, cap, hu, hgb, hgl, hc1, hc2⟩ := HM.out.some (by decide)
        rw [show Dk.blank.length = 128 from by decide] at hu hc1
        subst hu
        have heq := btEqual_any (.slice (some ⟨gb, 0, none⟩) 128 cap) (.slice (some ⟨G, 0, none⟩) 128 128) Dk.blank (Wl.zeros 128) w9 HM.out.bts (HO1.out.below HR9.out).bts
        rw [show decide (Dk.blank = Wl.zeros 128) = true from decide_eq_true rfl] at heq
        have HEQ := Lib.hid heq
        have HB9 := Lib.hid (HBR.out.trans (HR9.out.mono HBR.out.size))
        clear heq hgb hgl hc1 hc2
        go_wp2_with (go_at_call 99; refine HEQ.out.mono ?_; rintro e w' ⟨rfl, rfl⟩)
        go_roundw
        case rel => exact ⟨j + 1, by have h1 := HGL.out; have h2 := HGJ.out; have h3 := HN2.out; omega, congrArg (Value.int .u64) (by have := HGJ.out; omega), HB9.out⟩
        case measure => have h1 := HGL.out; have h2 := HN2.out; simp only [intOf]; omega
    · have hi : ¬ (g : Int) < (n2 : Int) := by omega
      clear hlt
      go_wp2_with (go_at_call 87; refine HCL.out.mono ?_; rintro e w' ⟨rfl, rfl⟩)
      go_ret
      exact ⟨rfl, HB1.out⟩
set_option maxHeartbeats 3200000 in
set_option maxRecDepth 20000 in
theorem wlBegin_any {w : World} {L B a c m1 m2 n : Nat} {k0 : Wl.Kn} {pl wa : Value} {d : Dk.Dev} (h : LogAt w L k0 B a c pl wa false) (hP : PDev w B m1 m2 d) (hC : Wl.Calm n d) (hc1 : 1 ≤ c) (hc2 : c ≤ 8192) (hfit : a + c + 2 ≤ n) (hz : ∀ i, i < Dk.size d → Wl.eff d i = Dk.blank) (hLd : ¬ DS B m1 m2 L) :
    Calls Tryz.prog 43 #[.pointer (some ⟨L, 0, none⟩)] w fun e w' => e = .returned (.int .i64 0) ∧ LogAt w' L ⟨52, 52, 0, 1⟩ B a c pl wa false ∧ PDev w' B m1 m2 (Wl.told d a (Wl.head a c ⟨52, 52, 0, 1⟩)) ∧ Touch (PutS B m1 m2 L) w w' := by
  have HWI := Lib.hid (wlWipe_any h hP hC.off hc1 hc2 (by rw [hC.sz]; exact hfit) hz)
  have HLG := Lib.hid h
  have HPD := Lib.hid hP
  have HC := Lib.hid hC
  have HFT := Lib.hid hfit
  have HC2 := Lib.hid hc2
  have HLD := Lib.hid hLd
  clear h hP hC hc1 hc2 hfit hz hLd
  go_enter Tryz.func43, Tryz.ntmps43
  go_wp2_with fail
  refine HWI.out.mono ?_
  rintro e w1 ⟨rfl, hb⟩
  have ht : Calls Tryz.prog 68 #[.pointer (some ⟨L, 0, none⟩), .agg #[.int .u64 52, .int .u64 52, .int .u64 0, .int .u32 1]] w1 fun e w' => e = .returned (.int .i64 0) ∧ LogAt w' L ⟨52, 52, 0, 1⟩ B a c pl wa false ∧ PDev w' B m1 m2 (Wl.told d a (Wl.head a c ⟨52, 52, 0, 1⟩)) ∧ Touch (PutS B m1 m2 L) w1 w' :=
    wlTell_any (HLG.out.below hb) (HPD.out.below hb) HC.out ⟨52, 52, 0, 1⟩ HFT.out HC2.out HLD.out
  have HT := Lib.hid ht
  have HB := Lib.hid hb
  clear ht hb HWI
  go_wp2_with fail
  refine HT.out.mono ?_
  rintro e w2 ⟨rfl, hl, hp, ht⟩
  have HE : Hid (_ ∧ _ ∧ _) := ⟨hl, hp, (Touch.of_new HB.out).trans ht⟩
  clear hl hp ht HT
  go_wp2_with fail
  go_ret
  exact ⟨rfl, HE.out⟩
set_option maxHeartbeats 3200000 in
set_option maxRecDepth 20000 in
theorem wlLaid_bad {w : World} {B m1 m2 : Nat} {d : Dk.Dev} (hP : PDev w B m1 m2 d) {a c : Int} (ha : I64' a) (hc : I64' c) (hn : ¬ Wl.Fits (Dk.size d) a c) (f : Value) :
    Calls Tryz.prog 42 #[.pointer (some ⟨B, 0, none⟩), .int .i64 a, .int .i64 c, f] w fun e w' => e = .returned (.tuple #[.pointer none, .int .i64 2]) ∧ w = w' := by
  have hse := (sectors_any hP).mono (R' := fun e w' => e = .returned (.int .i64 (Dk.size d : Nat)) ∧ w = w') fun _ _ ⟨h1, h2⟩ => ⟨h1, h2.symm⟩
  have h1 := hP.own.one
  have h2 := hP.own.size
  obtain ⟨N, hN⟩ : ∃ N, N = Dk.size d := ⟨_, rfl⟩
  rw [← hN] at hse h1 h2 hn
  have hN0 : ¬ (N : Int) = 0 := by omega
  have HSE := Lib.hid hse
  unfold I64' at ha hc
  have hn2 : c < 16 ∨ 8192 < c ∨ a < 0 ∨ (N : Int) - 2 - c < a := by
    unfold Wl.Fits at hn
    omega
  clear hP hN hse hn
  by_cases e1 : c < 16
  · clear ha hc hn2 h1 h2
    go_enter Tryz.func42, Tryz.ntmps42
    go_wp2_with (go_at_call 66; refine HSE.out.mono ?_; rintro e w' ⟨rfl, rfl⟩)
    go_ret2
    exact ⟨rfl, rfl⟩
  by_cases e2 : 8192 < c
  · clear ha hc hn2 h1 h2
    go_enter Tryz.func42, Tryz.ntmps42
    go_wp2_with (go_at_call 66; refine HSE.out.mono ?_; rintro e w' ⟨rfl, rfl⟩)
    go_ret2
    exact ⟨rfl, rfl⟩
  by_cases e3 : a < 0
  · clear ha hc hn2 h1 h2
    go_enter Tryz.func42, Tryz.ntmps42
    go_wp2_with (go_at_call 66; refine HSE.out.mono ?_; rintro e w' ⟨rfl, rfl⟩)
    go_ret2
    exact ⟨rfl, rfl⟩
  · have e4 : (N : Int) - 2 - c < a := by omega
    have w1 := IntWalk.wrap64_in ((N : Int) - 2) (by omega)
    have w2 := IntWalk.wrap64_in ((N : Int) - 2 - c) (by omega)
    clear ha hc hn2 h1 h2
    go_enter Tryz.func42, Tryz.ntmps42
    go_wp2_with (go_at_call 66; refine HSE.out.mono ?_; rintro e w' ⟨rfl, rfl⟩)
    go_ret2
    exact ⟨rfl, rfl⟩
set_option maxHeartbeats 3200000 in
set_option maxRecDepth 20000 in
theorem wlLaid_fits {w : World} {B m1 m2 a c : Nat} {d : Dk.Dev} (hP : PDev w B m1 m2 d) (h1 : 16 ≤ c) (h2 : c ≤ 8192) (h3 : a + c + 2 ≤ Dk.size d) (R : Nat → World → Prop)
    (hf : ∀ w1 L, Below w.heap.size w w1 → w.heap.size ≤ L → LogAt w1 L ⟨0, 0, 0, 0⟩ B a c (.slice none 0 0) (.slice none 0 0) false → Calls Tryz.prog 43 #[.pointer (some ⟨L, 0, none⟩)] w1 fun e w' => e = .returned (.int .i64 0) ∧ R L w') :
    Calls Tryz.prog 42 #[.pointer (some ⟨B, 0, none⟩), .int .i64 (a : Int), .int .i64 (c : Int), .func (.func 43) #[] #[]] w fun e w' => ∃ L, e = .returned (.tuple #[.pointer (some ⟨L, 0, none⟩), .int .i64 0]) ∧ R L w' := by
  have hse := (sectors_any hP).mono (R' := fun e w' => e = .returned (.int .i64 (Dk.size d : Nat)) ∧ w = w') fun _ _ ⟨h1, h2⟩ => ⟨h1, h2.symm⟩
  have h4 := hP.own.one
  have h5 := hP.own.size
  obtain ⟨N, hN⟩ : ∃ N, N = Dk.size d := ⟨_, rfl⟩
  rw [← hN] at hse h3 h4 h5
  have hN0 : ¬ (N : Int) = 0 := by omega
  have HSE := Lib.hid hse
  have e1 : ¬ (c : Int) < 16 := by omega
  have e2 : ¬ (8192 : Int) < (c : Int) := by omega
  have e3 : ¬ (a : Int) < 0 := by omega
  have e4 : ¬ (N : Int) - 2 - (c : Int) < (a : Int) := by omega
  have w1 := IntWalk.wrap64_in ((N : Int) - 2) (by omega)
  have w2 := IntWalk.wrap64_in ((N : Int) - 2 - (c : Int)) (by omega)
  have HF := Lib.hid hf
  clear hP hN hse h1 h2 h3 h4 h5 hf
  go_enter Tryz.func42, Tryz.ntmps42
  go_upto_region 7 with (go_at_call 66; refine HSE.out.mono ?_; rintro e w' ⟨rfl, rfl⟩)
  have hb := below_new1 w (.cells (LogC ⟨0, 0, 0, 0⟩ B a c (.slice none 0 0) (.slice none 0 0) false) 122)
  have hl : LogAt (w.alloc (.cells (LogC ⟨0, 0, 0, 0⟩ B a c (.slice none 0 0) (.slice none 0 0) false) 122)) w.heap.size ⟨0, 0, 0, 0⟩ B a c (.slice none 0 0) (.slice none 0 0) false := heap_alloc_last _ _
  have hc := HF.out _ _ hb (Nat.le_refl _) hl
  have HCC : Hid (Calls Tryz.prog 43 #[.pointer (some ⟨w.heap.size, 0, none⟩)] (w.alloc (.cells #[.int .u64 0, .int .u64 0, .int .u64 0, .int .u32 0, .pointer (some ⟨B, 0, none⟩), .int .i64 (a : Int), .int .i64 (c : Int), .slice none 0 0, .slice none 0 0, .bool false] 122)) fun e w' => e = .returned (.int .i64 0) ∧ R w.heap.size w') := hc
  clear hb hl hc e1 e2 e3 e4 w1 w2 hN0
  generalize (w.alloc (.cells #[.int .u64 0, .int .u64 0, .int .u64 0, .int .u32 0, .pointer (some ⟨B, 0, none⟩), .int .i64 (a : Int), .int .i64 (c : Int), .slice none 0 0, .slice none 0 0, .bool false] 122)) = W at *
  generalize w.heap.size = L at *
  go_wp2_with fail
  refine HCC.out.mono ?_
  rintro e w3 ⟨rfl, hr⟩
  have HR := Lib.hid hr
  clear hr HCC
  go_wp2_with fail
  go_ret2
  exact ⟨_, rfl, HR.out⟩
theorem Wl.eff_fresh (n i : Nat) (hi : i < n) : Wl.eff (Dk.fresh n n) i = Dk.blank := by
  unfold Wl.eff Dk.fresh
  show ((List.replicate n (none : Option (List Nat))).getD i none).getD ((List.replicate n Dk.blank).getD i []) = _
  rw [Wl.none_at]
  show (List.replicate n Dk.blank).getD i [] = _
  rw [List.getD_eq_getElem?_getD, List.getElem?_replicate, if_pos hi]
  rfl
def MkB (U : Nat → Prop) (n B : Nat) (a c : Int) (w : World) (e : Ending) (w' : World) : Prop :=
    (Wl.Fits n a c → ∃ L U' V' d', e = .returned (.tuple #[.pointer (some ⟨L, 0, none⟩), .int .i64 0]) ∧ WlPL U' V' w' B L d' (Wl.fresh a.toNat c.toNat) ∧ Wl.Oth a.toNat c.toNat (Dk.fresh n n) d' ∧ Wl.Calm n d' ∧ Touch U w w' ∧ Grew U U' w ∧ (∀ i, V' i → w.heap.size ≤ i)) ∧
    (¬ Wl.Fits n a c → e = .returned (.tuple #[.pointer none, .int .i64 2]) ∧ ∃ U' d', WlPD U' w' B d' ∧ Wl.Calm n d' ∧ Touch U w w' ∧ Grew U U' w)
set_option maxHeartbeats 3200000 in
set_option maxRecDepth 20000 in
theorem wl_make_oth {U : Nat → Prop} {w : World} {B n : Nat} (a c : Int) (h : WlPD U w B (Dk.fresh n n)) (hC : Wl.Calm n (Dk.fresh n n)) (ha : I64' a) (hc : I64' c) :
    Calls Tryz.prog 16 #[.pointer (some ⟨B, 0, none⟩), .int .i64 a, .int .i64 c] w fun e w' => MkB U n B a c w e w' := by
  have HPD0 := Lib.hid h
  obtain ⟨m1, m2, hP, rfl⟩ := h
  have hsz : Dk.size (Dk.fresh n n) = n := hC.sz
  by_cases hf : Wl.Fits n a c
  case neg =>
    have hl := wlLaid_bad hP ha hc (by rw [hsz]; exact hf) (.func (.func 43) #[] #[])
    have HL := Lib.hid hl
    have HF := Lib.hid hf
    have HC := Lib.hid hC
    clear hP hsz hl hf ha hc hC
    go_enter Tryz.func16, Tryz.ntmps16
    go_wp2_with fail
    refine HL.out.mono ?_
    rintro e w1 ⟨rfl, rfl⟩
    go_wp2_with fail
    go_ret2
    exact ⟨fun h => absurd h HF.out, fun _ => ⟨rfl, _, _, HPD0.out, HC.out, .refl _ _, fun i hi => Or.inl hi⟩⟩
  case pos =>
    obtain ⟨f1, f2, f3, f4⟩ := hf
    obtain ⟨A, rfl⟩ : ∃ A : Nat, a = (A : Int) := ⟨a.toNat, by omega⟩
    obtain ⟨C, rfl⟩ : ∃ C : Nat, c = (C : Int) := ⟨c.toNat, by omega⟩
    have g1 : 16 ≤ C := by omega
    have g2 : C ≤ 8192 := by omega
    have g3 : A + C + 2 ≤ n := by omega
    have hz : ∀ i, i < Dk.size (Dk.fresh n n) → Wl.eff (Dk.fresh n n) i = Dk.blank := fun i hi => Wl.eff_fresh n i (by rw [← hsz]; exact hi)
    have hl := wlLaid_fits hP (a := A) (c := C) g1 g2 (by rw [hsz]; exact g3)
      (fun L w' => w.heap.size ≤ L ∧ LogAt w' L ⟨52, 52, 0, 1⟩ B A C (.slice none 0 0) (.slice none 0 0) false ∧ PDev w' B m1 m2 (Wl.told (Dk.fresh n n) A (Wl.head A C ⟨52, 52, 0, 1⟩)) ∧ Touch (PutS B m1 m2 L) w w')
      (fun w1 L hb hL hlog => (wlBegin_any hlog (hP.below hb) hC (by omega) g2 g3 hz (fun hd => by have := hP.lt L hd; omega)).mono fun e w' ⟨e1, e2, e3, e4⟩ => ⟨e1, hL, e2, e3, (Touch.of_new hb).trans e4⟩)
    have HL := Lib.hid hl
    have HFF : Hid (Wl.Fits n (A : Int) (C : Int)) := ⟨f1, f2, f3, f4⟩
    have HC := Lib.hid hC
    have HP := Lib.hid hP
    have HG : Hid (16 ≤ C ∧ C ≤ 8192 ∧ A + C + 2 ≤ Dk.size (Dk.fresh n n)) := ⟨g1, g2, by rw [hsz]; exact g3⟩
    have HZ := Lib.hid hz
    clear hP hsz hl ha hc hC f1 f2 f3 f4 g1 g2 g3 hz
    go_enter Tryz.func16, Tryz.ntmps16
    go_wp2_with fail
    refine HL.out.mono ?_
    rintro e w1 ⟨L, rfl, hL, hlog, hp, ht⟩
    have HE : Hid (_ ∧ _ ∧ _ ∧ _) := ⟨hL, hlog, hp, ht⟩
    clear hL hlog hp ht HL
    go_wp2_with fail
    go_ret2
    obtain ⟨hL, hlog, hp, ht⟩ := HE.out
    refine ⟨fun _ => ⟨L, DS B m1 m2, LogV L (.slice none 0 0) (.slice none 0 0), _, rfl, ⟨m1, m2, .slice none 0 0, .slice none 0 0, ⟨Wl.ex_fresh HG.out.1 HG.out.2.1, hlog, qo_nil _ _, own_nil _ _, (fun h => by cases h), (fun h => by cases h), (fun i h => by cases h)⟩, rfl, hp, rfl, fun i hi hv => ?_, 52, Nat.le_refl _, Wl.dv_fresh HP.out.own.ok HG.out.2.2 HZ.out⟩, Wl.Oth.told HP.out.own.ok (Wl.head_sec _ _ _), Wl.calm_told HC.out HP.out.own.ok (Wl.head_sec _ _ _), ht.mono fun i hi hs => ?_, fun i hi => Or.inl hi, fun i hv => ?_⟩, fun h => absurd HFF.out h⟩
    · have h1 := HP.out.lt i hi
      rcases hv with hv | hv | hv
      · omega
      · cases hv
      · cases hv
    · rcases hs with hs | hs
      · exact hs
      · omega
    · rcases hv with hv | hv | hv
      · omega
      · cases hv
      · cases hv
end Go.Proofs.YtbpodmallknhfaaGreat
namespace Go.Proofs.YtbpodmallknhfaaGreat.Wl
open Go.Proofs.YtbpodmallknhfaaGreat
theorem same_sec {n g h : Nat} (e : g / 2 = h / 2) : g % (2 * n) / 2 = h % (2 * n) / 2 := by
  rw [Nat.mod_mul_right_div_self, Nat.mod_mul_right_div_self, e]
def lastH (s : S) : Nat := (s.stop - 1) / 52
structure WrIn (s : S) (g : Nat) : Prop where
  low : s.flushed / 52 ≤ g
  high : g ≤ lastH s
theorem WrIn.facts {s : S} {g : Nat} (h : WrIn s g) (hx : Ex s) (hfs : s.flushed < s.stop) : s.start / 52 ≤ g ∧ g < s.start / 52 + 2 * s.count ∧ g * 52 < s.stop ∧ s.flushed < (g + 1) * 52 := by
  have h1 := h.low
  have h2 := h.high
  have h3 := hx.room
  have h4 := hx.good.low
  unfold lastH at h2
  have h5 : s.start / 52 ≤ s.flushed / 52 := Nat.div_le_div_right h4
  refine ⟨by omega, ?_, by omega, by omega⟩
  have h6 : (s.stop - 1) / 52 < s.start / 52 + 2 * s.count := by
    rw [Nat.div_lt_iff_lt_mul (by decide)]
    omega
  omega
theorem WrIn.ok {s : S} {g : Nat} (h : WrIn s g) (hx : Ex s) (hfs : s.flushed < s.stop) (hs : s.stop ≤ 1000000000000) : NwOk s.flushed s.epoch (2 * s.count) (waits s) g := by
  obtain ⟨h1, h2, h3, h4⟩ := h.facts hx hfs
  have h5 := waits_length hx.good
  have h6 := hx.low
  refine ⟨by unfold oldOf; omega, by unfold swOf oldOf; omega, ?_, hx.ep⟩
  have h8 : g / (2 * s.count) ≤ g / 32 := Nat.div_le_div_left (by omega) (by decide)
  omega
theorem nw_ok {s : S} {said g : Nat} {d : Dk.Dev} (h : WrIn s g) (hx : Ex s) (hD : Dv s said d) (hfs : s.flushed < s.stop) (_ : s.stop ≤ 1000000000000) (hl : (Wl.half s d g).log.length = 52) :
    HOk s said (g % (2 * s.count)) (nw s.flushed s.epoch (2 * s.count) (waits s) (Wl.half s d g) g) ∧ HOk (flush s) said (g % (2 * s.count)) (nw s.flushed s.epoch (2 * s.count) (waits s) (Wl.half s d g) g) := by
  obtain ⟨h1, h2, h3, h4⟩ := h.facts hx hfs
  have h5 := waits_length hx.good
  have hfill : (nw s.flushed s.epoch (2 * s.count) (waits s) (Wl.half s d g) g).fill = min 52 (s.stop - g * 52) := by
    show oldOf s.flushed g + freshOf s.flushed (waits s).length g = _
    unfold freshOf swOf oldOf
    omega
  have hby : ∀ i, i < (nw s.flushed s.epoch (2 * s.count) (waits s) (Wl.half s d g) g).fill → s.start ≤ g * 52 + i → (nw s.flushed s.epoch (2 * s.count) (waits s) (Wl.half s d g) g).log.getD i 0 = byteAt s (g * 52 + i) := by
    intro i hi hp
    have hi' : i < oldOf s.flushed g + freshOf s.flushed (waits s).length g := hi
    show (fill2 _ _ _ _ _).log.getD i 0 = _
    rw [fill2_at hl (by unfold freshOf oldOf; omega) (by unfold freshOf; omega) hi']
    have hlo := (hD.half (by have := hx.low; omega) g).lo g h1 rfl
    by_cases ho : i < oldOf s.flushed g
    · rw [if_pos ho]
      unfold oldOf at ho
      exact (hD.half (by have := hx.low; omega) g).is g i h1 rfl (by omega) hp
    · rw [if_neg ho]
      have hg := hx.good.low
      unfold waits byteAt
      rw [getD_drop]
      congr 1
      unfold swOf oldOf at *
      omega
  exact ⟨hok_new h1 h2 rfl rfl rfl hfill h3 hby hx.room hx.good.high, hok_new (s := flush s) h1 h2 rfl rfl rfl hfill h3 hby hx.room (Nat.le_refl _)⟩
structure Wr (s : S) (said : Nat) (d : Dk.Dev) (h : Nat) : Prop where
  dv : Dv s said d
  new : ∀ g, WrIn s g → g < h → HOk (flush s) said (g % (2 * s.count)) (Wl.half s d g)
theorem wr_start {s : S} {said : Nat} {d : Dk.Dev} (h : Dv s said d) : Wr s said d (s.flushed / 52) := ⟨h, fun g hg h2 => absurd hg.low (by omega)⟩
theorem half_same {s : S} {d d' : Dk.Dev} (hl : d'.lasts = d.lasts) (hw : d'.waits = d.waits) (g : Nat) : Wl.half s d' g = Wl.half s d g := by
  unfold Wl.half eff
  rw [hl, hw]
theorem Wr.goes {s : S} {said h : Nat} {d : Dk.Dev} (H : Wr s said d h) : Wr s said (Dk.goes d) h := by
  obtain ⟨h1, h2, -, -⟩ := Dk.goes_same d
  exact ⟨H.dv.goes, fun g h3 h4 => by rw [half_same h1 h2]; exact H.new g h3 h4⟩
theorem Wr.put {s : S} {said h : Nat} {d : Dk.Dev} {b : List Nat} (H : Wr s said d h) (hx : Ex s) (hfs : s.flushed < s.stop) (hs : s.stop ≤ 1000000000000) (hh : WrIn s h)
    (hb : Sn s.flushed s.epoch (2 * s.count) (waits s) (eff d (s.at_ + 2 + h % (2 * s.count) / 2)) h (min (lastH s) (h / 2 * 2 + 1) + 1) b) : Wr s said (Dk.put d (s.at_ + 2 + h % (2 * s.count) / 2) b) (h / 2 * 2 + 2) := by
  have hD := H.dv
  have hc := hx.low
  have hfit := hD.fits
  have hj := sec_lt (n := s.count) (h := h) (by omega)
  have hlen : ∀ g, (Wl.half s d g).log.length = 52 := fun g => hfOf_len (eff_sec hD.ok (by have := sec_lt (n := s.count) (h := g) (by omega); omega)).1 (by omega)
  have hin : ∀ t, h ≤ t → t < min (lastH s) (h / 2 * 2 + 1) + 1 → WrIn s t := fun t h1 h2 => ⟨Nat.le_trans hh.low h1, by omega⟩
  have hsec : ∀ t, h ≤ t → t < min (lastH s) (h / 2 * 2 + 1) + 1 → t % (2 * s.count) / 2 = h % (2 * s.count) / 2 := fun t h1 h2 => same_sec (by omega)
  have hnew : ∀ t, h ≤ t → t < min (lastH s) (h / 2 * 2 + 1) + 1 → hfOf (hf b (t % 2)) = nw s.flushed s.epoch (2 * s.count) (waits s) (Wl.half s d t) t := by
    intro t h1 h2
    rw [hb.new t h1 h2]
    unfold Wl.half
    rw [hsec t h1 h2]
  have hk : ∀ k, k < 2 → HOk s said (2 * (h % (2 * s.count) / 2) + k) (hfOf (hf b k)) := by
    intro k hk
    by_cases hex : ∃ t, h ≤ t ∧ t < min (lastH s) (h / 2 * 2 + 1) + 1 ∧ t % 2 = k
    · obtain ⟨t, h1, h2, rfl⟩ := hex
      rw [hnew t h1 h2, ← hsec t h1 h2, ← sec_at]
      exact (nw_ok (hin t h1 h2) hx hD hfs hs (hlen t)).1
    · rw [hb.old k hk fun t h1 h2 e => hex ⟨t, h1, h2, e⟩]
      exact (hD.eff hj).hf hk
  have hw : s.at_ + 2 + h % (2 * s.count) / 2 < d.waits.length := by rw [hD.ok.w]; omega
  refine ⟨hD.put hj hb.sec ⟨hk 0 (by decide), hk 1 (by decide)⟩, fun g hg hlt => ?_⟩
  have hhalf : Wl.half s (Dk.put d (s.at_ + 2 + h % (2 * s.count) / 2) b) g = if h % (2 * s.count) / 2 = g % (2 * s.count) / 2 then hfOf (hf b (g % 2)) else Wl.half s d g := by
    unfold Wl.half
    rw [eff_put hw]
    by_cases e : h % (2 * s.count) / 2 = g % (2 * s.count) / 2
    · rw [if_pos (by omega), if_pos e]
    · rw [if_neg (by omega), if_neg e]
  rw [hhalf]
  by_cases hge : h ≤ g
  · have h2 : g < min (lastH s) (h / 2 * 2 + 1) + 1 := by have := hg.high; omega
    rw [if_pos (hsec g hge h2).symm, hnew g hge h2]
    exact (nw_ok hg hx hD hfs hs (hlen g)).2
  · by_cases e : h % (2 * s.count) / 2 = g % (2 * s.count) / 2
    · rw [if_pos e]
      have hno : ∀ t, h ≤ t → t < min (lastH s) (h / 2 * 2 + 1) + 1 → t % 2 ≠ g % 2 := by
        intro t h1 h2 e2
        have h3 := hsec t h1 h2
        have e3 : t % (2 * s.count) = g % (2 * s.count) := by rw [sec_at (n := s.count) (h := t), sec_at (n := s.count) (h := g), h3, e, e2]
        obtain ⟨f1, f2, -, -⟩ := (hin t h1 h2).facts hx hfs
        obtain ⟨f3, f4, -, -⟩ := hg.facts hx hfs
        have d1 := Nat.div_add_mod t (2 * s.count)
        have d2 := Nat.div_add_mod g (2 * s.count)
        have h4 : t / (2 * s.count) ≠ g / (2 * s.count) := fun e4 => by rw [e4, e3] at d1; omega
        have h5 : g / (2 * s.count) < t / (2 * s.count) := Nat.lt_of_le_of_ne (Nat.div_le_div_right (by omega)) (Ne.symm h4)
        have h6 : 2 * s.count * (g / (2 * s.count) + 1) ≤ 2 * s.count * (t / (2 * s.count)) := Nat.mul_le_mul_left _ h5
        rw [Nat.mul_succ] at h6
        omega
      rw [hb.old (g % 2) (by omega) hno]
      have := H.new g hg (by omega)
      unfold Wl.half at this
      rw [← e] at this
      exact this
    · rw [if_neg e]
      exact H.new g hg (by omega)
theorem Wr.done {s : S} {said h : Nat} {d : Dk.Dev} (H : Wr s said d h) (hx : Ex s) (hfs : s.flushed < s.stop) (hh : lastH s < h) : Dv (flush s) said (Dk.last d) := by
  have hD := H.dv
  have hc := hx.low
  have hfit := hD.fits
  have hL := hD.last
  have hq : ∀ j, j < s.count → ∀ k, k < 2 → HOk (flush s) said (2 * j + k) (hfOf (hf (eff d (s.at_ + 2 + j)) k)) := by
    intro j hj k hk
    by_cases hex : ∃ g, WrIn s g ∧ g % (2 * s.count) = 2 * j + k
    · obtain ⟨g, hg, e⟩ := hex
      have h1 := H.new g hg (by have := hg.high; omega)
      rw [e] at h1
      have h2 := sec_at (n := s.count) (h := g)
      unfold Wl.half at h1
      rw [show g % (2 * s.count) / 2 = j by omega, show g % 2 = k by omega] at h1
      exact h1
    · refine ((hD.eff hj).hf hk).flushed fun g h1 h2 => ?_
      have hlo := ((hD.eff hj).hf hk).lo g h1 h2
      have hnot : ¬ WrIn s g := fun hg => hex ⟨g, hg, h2⟩
      have hg : g < s.flushed / 52 ∨ lastH s < g := by
        rcases Nat.lt_or_ge g (s.flushed / 52) with h3 | h3
        · exact Or.inl h3
        · rcases Nat.lt_or_ge (lastH s) g with h4 | h4
          · exact Or.inr h4
          · exact absurd ⟨h3, h4⟩ hnot
      unfold lastH at hg
      rcases hg with hg | hg
      · omega
      · omega
  have hz := Dk.last_size2 hD.ok
  refine ⟨hL.ok, hL.fits, hL.hl, hL.hw, fun j hj => ?_, fun j b hj hw => ?_⟩
  · show SecOk _ _ _ ((Dk.last d).lasts.getD (s.at_ + 2 + j) [])
    rw [Dk.last_lasts hD.ok (by have hj : j < s.count := hj; omega)]
    exact ⟨hq j hj 0 (by decide), hq j hj 1 (by decide)⟩
  · have hw : (Dk.none_ d).getD (s.at_ + 2 + j) none = some b := hw
    unfold Dk.none_ at hw
    rw [none_at] at hw; cases hw
theorem near_write {n : Nat} {d : Dk.Dev} (h : Near n d) (ho : d.off = false) {i : Nat} (hi : i < n) {b : List Nat} (hb : Dk.Sec b) : Dk.write d (i : Int) b = (Dk.goes (Dk.put d i b), if (Dk.goes (Dk.put d i b)).off then 6 else 0) ∧ Near n (Dk.goes (Dk.put d i b)) := by
  have hsz := h.sz
  have h1 : ¬ (d.off = true) := by rw [ho]; decide
  have h2 : ¬ (Dk.bad d (i : Int) ∨ b.length ≠ 128) := by have := hb.1; unfold Dk.bad; omega
  have h3 : ¬ (d.seen.getD (i : Int).toNat false = false ∧ d.most ≤ Dk.used d) := by
    rw [Int.toNat_natCast]
    rintro ⟨h3, h4⟩
    have hl : i < d.seen.length := by rw [h.ok.s]; omega
    have h5 := Dk.count_set_new hl h3
    have h6 : (d.seen.set i true).count true ≤ (d.seen.set i true).length := List.count_le_length
    rw [List.length_set, h.ok.s] at h6
    have := h.most
    unfold Dk.used at h4
    omega
  refine ⟨?_, ?_⟩
  · unfold Dk.write
    rw [if_neg h1, if_neg h2, if_neg h3, Int.toNat_natCast]
  · have hg := Dk.goes_same (Dk.put d i b)
    exact ⟨Dk.ok_goes (Dk.ok_put h.ok i hb), by rw [Dk.goes_size]; exact hsz, by rw [hg.2.2.2]; exact h.most⟩
theorem calm_put {n : Nat} {d : Dk.Dev} (h : Calm n d) (i : Nat) (b : List Nat) : Calm n (Dk.goes (Dk.put d i b)) := by
  rw [Dk.goes_idle (d := Dk.put d i b) h.armed]
  exact ⟨h.off, h.armed, h.sz, h.most⟩
theorem near_sync {n : Nat} {d : Dk.Dev} (h : Near n d) (ho : d.off = false) : (Dk.sync d = (Dk.goes d, 6) ∧ Near n (Dk.goes d) ∧ ¬ Calm n d) ∨ (Dk.sync d = (Dk.last (Dk.goes d), 0) ∧ Near n (Dk.last (Dk.goes d)) ∧ (Calm n d → Calm n (Dk.last (Dk.goes d)))) := by
  have hg := Dk.goes_same d
  have hn : Near n (Dk.goes d) := ⟨Dk.ok_goes h.ok, by rw [Dk.goes_size]; exact h.sz, by rw [hg.2.2.2]; exact h.most⟩
  unfold Dk.sync
  rw [if_neg (by rw [ho]; decide)]
  cases hoff : (Dk.goes d).off with
  | true =>
    rw [if_pos rfl]
    refine Or.inl ⟨rfl, hn, fun hc => ?_⟩
    rw [Dk.goes_idle hc.armed, ho] at hoff
    cases hoff
  | false =>
    rw [if_neg (by decide)]
    refine Or.inr ⟨rfl, ⟨Dk.ok_last hn.ok, by rw [Dk.last_size2 hn.ok]; exact hn.sz, hn.most⟩, fun hc => ?_⟩
    rw [Dk.goes_idle hc.armed]
    exact ⟨hc.off, hc.armed, by rw [Dk.last_size2 h.ok]; exact hc.sz, hc.most⟩
end Go.Proofs.YtbpodmallknhfaaGreat.Wl
namespace Go.Proofs.YtbpodmallknhfaaGreat.Rg
open Go.Proofs.YtbpodmallknhfaaGreat
def lv (d : Dk.Dev) (i : Nat) : List Nat := d.lasts.getD i []
def wv (d : Dk.Dev) (i : Nat) : Option (List Nat) := d.waits.getD i none
def QS (d : Dk.Dev) (i : Nat) : Prop := ∀ x, wv d i = some x → x = lv d i
def bnd (r : Dk.Dev × Nat) (f : Dk.Dev → Dk.Dev × Nat) : Dk.Dev × Nat := if r.2 ≠ 0 then r else f r.1
theorem bnd_go {r : Dk.Dev × Nat} (f : Dk.Dev → Dk.Dev × Nat) (h : r.2 = 0) : bnd r f = f r.1 := if_neg (by omega)
theorem bnd_stop {r : Dk.Dev × Nat} (f : Dk.Dev → Dk.Dev × Nat) (h : r.2 ≠ 0) : bnd r f = r := if_pos h
def claimR : Dk.Dev → Nat → Nat → Dk.Dev × Nat
  | d, _, 0 => (d, 0)
  | d, p, k + 1 => if (Dk.read d (p : Int)).2 ≠ 0 then (d, (Dk.read d (p : Int)).2) else if (Dk.read d (p : Int)).1 = Dk.blank then bnd (Dk.write d (p : Int) Dk.blank) (fun e => claimR e (p + 1) k) else claimR d (p + 1) k
def secs5 (b : List Nat) : List (List Nat) := (List.range 5).map (part 128 b)
def layR (d : Dk.Dev) (s : Nat) (nb : List Nat) : Dk.Dev × Nat := bnd (Dk.wrs d s (secs5 nb)) Dk.sync
def settleR (d : Dk.Dev) (s p : Nat) (fm : List Nat) : Dk.Dev × Nat :=
  bnd (Dk.wrs d p (Dk.secs fm)) fun d => bnd (Dk.sync d) fun d => bnd (Dk.write d (s : Int) Dk.blank) Dk.sync
def writeR (d : Dk.Dev) (s p : Nat) (fm nb : List Nat) : Dk.Dev × Nat := bnd (claimR d p 4) fun d => bnd (layR d s nb) fun d => settleR d s p fm
inductive Ro (A : Nat → Prop) (n : Nat) : Dk.Dev → Dk.Dev → Prop
  | refl (d : Dk.Dev) : Ro A n d d
  | write {d e : Dk.Dev} {i : Nat} {b : List Nat} (h : Ro A n d e) (hA : A i) (hi : i < n) (hb : Dk.Sec b) : Ro A n d (Dk.write e (i : Int) b).1
  | sync {d e : Dk.Dev} (h : Ro A n d e) : Ro A n d (Dk.sync e).1
theorem Ro.trans {A : Nat → Prop} {n : Nat} {d e f : Dk.Dev} (h : Ro A n d e) (k : Ro A n e f) : Ro A n d f := by
  induction k with
  | refl => exact h
  | write _ hA hi hb ih => exact ih.write hA hi hb
  | sync _ ih => exact ih.sync
theorem near_off {d : Dk.Dev} {i : Int} {b : List Nat} (h : d.off = true) : Dk.write d i b = (d, 6) := by unfold Dk.write; rw [if_pos h]
theorem sync_off {d : Dk.Dev} (h : d.off = true) : Dk.sync d = (d, 6) := by unfold Dk.sync; rw [if_pos h]
theorem Ro.near {A : Nat → Prop} {n : Nat} {d e : Dk.Dev} (h : Ro A n d e) (hN : Wl.Near n d) : Wl.Near n e := by
  induction h with
  | refl => exact hN
  | @write e i b _ hA hi hb ih =>
    cases ho : e.off with
    | true => rw [near_off ho]; exact ih
    | false => rw [(Wl.near_write ih ho hi hb).1]; exact (Wl.near_write ih ho hi hb).2
  | @sync e _ ih =>
    cases ho : e.off with
    | true => rw [sync_off ho]; exact ih
    | false =>
      rcases Wl.near_sync ih ho with ⟨e1, e2, -⟩ | ⟨e1, e2, -⟩
      · rw [e1]; exact e2
      · rw [e1]; exact e2
structure Op (A : Nat → Prop) (n : Nat) (d : Dk.Dev) (r : Dk.Dev × Nat) : Prop where
  ro : Ro A n d r.1
  calm : Wl.Calm n d → r.2 = 0 ∧ Wl.Calm n r.1
  err : r.2 = 0 ∨ r.2 = 6
  on : r.2 = 0 → r.1.off = false
theorem op_write {A : Nat → Prop} {n : Nat} {d : Dk.Dev} (h : Wl.Near n d) {i : Nat} (hA : A i) (hi : i < n) {b : List Nat} (hb : Dk.Sec b) : Op A n d (Dk.write d (i : Int) b) := by
  refine ⟨(Ro.refl d).write hA hi hb, fun hc => ?_, ?_, ?_⟩
  · rw [(Wl.near_write h hc.off hi hb).1]
    have h2 := Wl.calm_put hc i b
    refine ⟨?_, h2⟩
    show (if (Dk.goes (Dk.put d i b)).off then 6 else 0) = 0
    rw [h2.off]; rfl
  · cases ho : d.off with
    | true => rw [near_off ho]; exact Or.inr rfl
    | false =>
      rw [(Wl.near_write h ho hi hb).1]
      show (if _ then 6 else 0) = 0 ∨ (if _ then 6 else 0) = 6
      split
      · exact Or.inr rfl
      · exact Or.inl rfl
  · cases ho : d.off with
    | true => rw [near_off ho]; intro e; cases e
    | false =>
      rw [(Wl.near_write h ho hi hb).1]
      show (if (Dk.goes (Dk.put d i b)).off then 6 else 0) = 0 → _
      cases hg : (Dk.goes (Dk.put d i b)).off with
      | true => intro e; cases e
      | false => exact fun _ => rfl
theorem op_sync {A : Nat → Prop} {n : Nat} {d : Dk.Dev} (h : Wl.Near n d) : Op A n d (Dk.sync d) := by
  refine ⟨(Ro.refl d).sync, fun hc => ?_, ?_, ?_⟩
  · rcases Wl.near_sync h hc.off with ⟨-, -, e⟩ | ⟨e1, -, e2⟩
    · exact absurd hc e
    · rw [e1]; exact ⟨rfl, e2 hc⟩
  · cases ho : d.off with
    | true => rw [sync_off ho]; exact Or.inr rfl
    | false =>
      rcases Wl.near_sync h ho with ⟨e1, -, -⟩ | ⟨e1, -, -⟩
      · rw [e1]; exact Or.inr rfl
      · rw [e1]; exact Or.inl rfl
  · cases ho : d.off with
    | true => rw [sync_off ho]; intro e; cases e
    | false =>
      unfold Dk.sync
      rw [if_neg (by rw [ho]; decide)]
      cases hg : (Dk.goes d).off with
      | true => rw [if_pos rfl]; intro e; cases e
      | false => rw [if_neg (by decide)]; exact fun _ => hg
theorem Op.bnd {A : Nat → Prop} {n : Nat} {d : Dk.Dev} {r : Dk.Dev × Nat} (h : Op A n d r) {f : Dk.Dev → Dk.Dev × Nat} (hf : r.2 = 0 → Op A n r.1 (f r.1)) : Op A n d (Rg.bnd r f) := by
  by_cases h0 : r.2 = 0
  · rw [bnd_go f h0]
    have k := hf h0
    exact ⟨h.ro.trans k.ro, fun hc => k.calm (h.calm hc).2, k.err, k.on⟩
  · rw [bnd_stop f h0]; exact h
theorem op_refl {A : Nat → Prop} {n : Nat} {d : Dk.Dev} (h : d.off = false) : Op A n d (d, 0) := ⟨.refl d, fun hc => ⟨rfl, hc⟩, Or.inl rfl, fun _ => h⟩
theorem op_stop {A : Nat → Prop} {n : Nat} {d : Dk.Dev} (h : d.off = true) : Op A n d (d, 6) := ⟨.refl d, (fun hc => by have := hc.off; rw [h] at this; cases this), Or.inr rfl, fun e => by cases e⟩
theorem read_near {n : Nat} {d : Dk.Dev} (h : Wl.Near n d) {i : Nat} (hi : i < n) : Dk.read d (i : Int) = if d.off then ([], 6) else (Dk.sv d i, 0) := by
  have hsz := h.sz
  unfold Dk.read
  by_cases ho : d.off = true
  · rw [if_pos ho, if_pos ho]
  · rw [if_neg ho, if_neg ho, if_neg (by unfold Dk.bad; omega), Int.toNat_natCast]
    rfl
theorem read_on {n : Nat} {d : Dk.Dev} (h : Wl.Near n d) (ho : d.off = false) {i : Nat} (hi : i < n) : Dk.read d (i : Int) = (Dk.sv d i, 0) := by rw [read_near h hi, ho]; rfl
theorem sv_quiet {d : Dk.Dev} {i : Nat} (h : QS d i) : Dk.sv d i = lv d i := by
  unfold Dk.sv
  cases hw : d.waits.getD i none with
  | none => rfl
  | some x => exact h x hw
theorem write_eff {n : Nat} {d : Dk.Dev} (h : Wl.Near n d) {i : Nat} (hi : i < n) {b : List Nat} (hb : Dk.Sec b) :
    (∀ k, lv (Dk.write d (i : Int) b).1 k = lv d k) ∧ (∀ k, wv (Dk.write d (i : Int) b).1 k = wv d k ∨ (k = i ∧ wv (Dk.write d (i : Int) b).1 k = some b)) ∧
    ((Dk.write d (i : Int) b).2 = 0 → ∀ k, wv (Dk.write d (i : Int) b).1 k = if k = i then some b else wv d k) := by
  cases ho : d.off with
  | true => rw [near_off ho]; exact ⟨fun _ => rfl, fun _ => Or.inl rfl, fun e => by cases e⟩
  | false =>
    rw [(Wl.near_write h ho hi hb).1]
    obtain ⟨g1, g2, -, -⟩ := Dk.goes_same (Dk.put d i b)
    have hw : ∀ k, wv (Dk.goes (Dk.put d i b)) k = if k = i then some b else wv d k := fun k => by
      unfold wv
      rw [g2, Wl.waits_put (by rw [h.ok.w, h.sz]; exact hi)]
      by_cases e : i = k
      · rw [if_pos e, if_pos e.symm]
      · rw [if_neg e, if_neg (Ne.symm e)]
    refine ⟨fun k => by unfold lv; rw [g1]; rfl, fun k => ?_, fun _ => hw⟩
    by_cases e : k = i
    · exact Or.inr ⟨e, by rw [hw k, if_pos e]⟩
    · exact Or.inl (by rw [hw k, if_neg e])
theorem sync_eff {n : Nat} {d : Dk.Dev} (h : Wl.Near n d) :
    ((Dk.sync d).2 = 0 → ∀ k, k < n → lv (Dk.sync d).1 k = (wv d k).getD (lv d k) ∧ wv (Dk.sync d).1 k = none) ∧
    ((Dk.sync d).2 ≠ 0 → ∀ k, lv (Dk.sync d).1 k = lv d k ∧ wv (Dk.sync d).1 k = wv d k) := by
  cases ho : d.off with
  | true => rw [sync_off ho]; exact ⟨(fun e => by cases e), fun _ _ => ⟨rfl, rfl⟩⟩
  | false =>
    obtain ⟨g1, g2, -, -⟩ := Dk.goes_same d
    rcases Wl.near_sync h ho with ⟨e, -, -⟩ | ⟨e, -, -⟩
    · rw [e]
      exact ⟨(fun e => by cases e), fun _ k => ⟨by unfold lv; rw [g1], by unfold wv; rw [g2]⟩⟩
    · rw [e]
      refine ⟨fun _ k hk => ⟨?_, Wl.none_at _ _⟩, fun e => absurd rfl e⟩
      show (Dk.last (Dk.goes d)).lasts.getD k [] = _
      rw [Dk.last_lasts (Dk.ok_goes h.ok) (by rw [Dk.goes_size, h.sz]; exact hk), g1, g2]
      rfl
theorem crash_eff {n : Nat} {d : Dk.Dev} (h : Wl.Near n d) (ps : List Nat) {k : Nat} (hk : k < n) :
    wv (Dk.crash d ps) k = none ∧ ((wv d k = none → lv (Dk.crash d ps) k = lv d k) ∧ ∀ x, wv d k = some x → ∃ p, lv (Dk.crash d ps) k = Dk.pick p (lv d k) x) := by
  refine ⟨Wl.none_at _ _, ?_⟩
  have hc := Dk.crash_lasts h.ok ps (i := k) (by rw [h.sz]; exact hk)
  unfold lv wv
  rw [hc]
  refine ⟨fun e => by rw [e], fun x e => ⟨_, by rw [e]⟩⟩
theorem crash_quiet {n : Nat} {d : Dk.Dev} (h : Wl.Near n d) (ps : List Nat) {k : Nat} (hk : k < n) (hq : QS d k) : lv (Dk.crash d ps) k = lv d k := by
  obtain ⟨-, h1, h2⟩ := crash_eff h ps hk
  cases hw : wv d k with
  | none => exact h1 hw
  | some x =>
    obtain ⟨p, e⟩ := h2 x hw
    rw [e, hq x hw, Wl.pick_same]
theorem sync_quiet {n : Nat} {d : Dk.Dev} (h : Wl.Near n d) (h0 : (Dk.sync d).2 = 0) {k : Nat} (hk : k < n) (hq : QS d k) : lv (Dk.sync d).1 k = lv d k ∧ wv (Dk.sync d).1 k = none := by
  obtain ⟨h1, h2⟩ := (sync_eff h).1 h0 k hk
  refine ⟨?_, h2⟩
  rw [h1]
  cases hw : wv d k with
  | none => rfl
  | some x => exact hq x hw
theorem op_wrs {A : Nat → Prop} {n : Nat} : ∀ (L : List (List Nat)) {d : Dk.Dev} {p : Nat}, Wl.Near n d → d.off = false → (∀ s ∈ L, Dk.Sec s) → p + L.length ≤ n → (∀ j, j < L.length → A (p + j)) → Op A n d (Dk.wrs d p L)
  | [], d, p, _, ho, _, _, _ => op_refl ho
  | b :: r, d, p, h, _, hs, hp, hA => by
    simp only [List.length_cons] at hp
    have h1 : Op A n d (Dk.write d (p : Int) b) := op_write h (hA 0 (by simp)) (by omega) (hs b (List.mem_cons_self ..))
    have h2 := h1.bnd (f := fun e => Dk.wrs e (p + 1) r) fun h0 => op_wrs r (h1.ro.near h) (h1.on h0) (fun s hm => hs s (List.mem_cons_of_mem _ hm)) (by omega) fun j hj => by
      have := hA (j + 1) (by simp; omega)
      rw [show p + 1 + j = p + (j + 1) by omega]; exact this
    exact h2
theorem wrs_eff {n : Nat} : ∀ (L : List (List Nat)) {d : Dk.Dev} {p : Nat}, Wl.Near n d → (∀ s ∈ L, Dk.Sec s) → p + L.length ≤ n →
    (∀ k, lv (Dk.wrs d p L).1 k = lv d k) ∧ (∀ k, wv (Dk.wrs d p L).1 k = wv d k ∨ (p ≤ k ∧ k < p + L.length ∧ wv (Dk.wrs d p L).1 k = some (L.getD (k - p) []))) ∧
    ((Dk.wrs d p L).2 = 0 → ∀ k, wv (Dk.wrs d p L).1 k = if p ≤ k ∧ k < p + L.length then some (L.getD (k - p) []) else wv d k)
  | [], d, p, _, _, _ => ⟨fun _ => rfl, fun _ => Or.inl rfl, fun _ k => by rw [if_neg (by simp)]; rfl⟩
  | b :: r, d, p, h, hs, hp => by
    simp only [List.length_cons] at hp
    have hb := hs b (List.mem_cons_self ..)
    obtain ⟨w1, w2, w3⟩ := write_eff h (i := p) (by omega) hb
    have hN := ((Ro.refl d).write (A := fun _ => True) (n := n) (i := p) trivial (by omega) hb).near h
    show (∀ k, lv (bnd (Dk.write d (p : Int) b) fun e => Dk.wrs e (p + 1) r).1 k = lv d k) ∧ (∀ k, wv (bnd (Dk.write d (p : Int) b) fun e => Dk.wrs e (p + 1) r).1 k = wv d k ∨ (p ≤ k ∧ k < p + (b :: r).length ∧ wv (bnd (Dk.write d (p : Int) b) fun e => Dk.wrs e (p + 1) r).1 k = some ((b :: r).getD (k - p) []))) ∧
      ((bnd (Dk.write d (p : Int) b) fun e => Dk.wrs e (p + 1) r).2 = 0 → ∀ k, wv (bnd (Dk.write d (p : Int) b) fun e => Dk.wrs e (p + 1) r).1 k = if p ≤ k ∧ k < p + (b :: r).length then some ((b :: r).getD (k - p) []) else wv d k)
    by_cases h0 : (Dk.write d (p : Int) b).2 = 0
    · rw [bnd_go _ h0]
      obtain ⟨r1, r2, r3⟩ := wrs_eff r (p := p + 1) hN (fun s hm => hs s (List.mem_cons_of_mem _ hm)) (by omega)
      have hw := w3 h0
      refine ⟨fun k => (r1 k).trans (w1 k), fun k => ?_, fun e k => ?_⟩
      · rcases r2 k with e | ⟨e1, e2, e3⟩
        · rw [e, hw k]
          by_cases ek : k = p
          · refine Or.inr ⟨by omega, by simp; omega, ?_⟩
            rw [if_pos ek, ek, Nat.sub_self]; rfl
          · exact Or.inl (if_neg ek)
        · refine Or.inr ⟨by omega, by simp; omega, ?_⟩
          rw [e3, show k - p = (k - (p + 1)) + 1 by omega]; rfl
      · rw [r3 e k]
        by_cases h1 : p + 1 ≤ k ∧ k < p + 1 + r.length
        · rw [if_pos h1, if_pos (by simp; omega), show k - p = (k - (p + 1)) + 1 by omega]; rfl
        · rw [if_neg h1, hw k]
          by_cases ek : k = p
          · rw [if_pos ek, if_pos (by simp; omega), ek, Nat.sub_self]; rfl
          · rw [if_neg ek, if_neg (by simp; omega)]
    · rw [bnd_stop _ h0]
      refine ⟨w1, fun k => ?_, fun e => absurd e h0⟩
      rcases w2 k with e | ⟨e1, e2⟩
      · exact Or.inl e
      · refine Or.inr ⟨by omega, by simp; omega, ?_⟩
        rw [e2, e1, Nat.sub_self]; rfl
theorem op_claim {A : Nat → Prop} {n : Nat} : ∀ (k : Nat) {d : Dk.Dev} {p : Nat}, Wl.Near n d → 0 < k → p + k ≤ n → (∀ j, j < k → A (p + j)) → Op A n d (claimR d p k)
  | 0, _, _, _, h, _, _ => absurd h (Nat.lt_irrefl 0)
  | k + 1, d, p, h, _, hp, hA => by
    unfold claimR
    cases ho : d.off with
    | true =>
      rw [read_near h (by omega), if_pos ho]
      exact op_stop ho
    | false =>
      rw [read_on h ho (by omega)]
      dsimp only
      rw [if_neg (show ¬ ((0 : Nat) ≠ 0) by decide)]
      have hgo : ∀ {e : Dk.Dev}, Wl.Near n e → e.off = false → Op A n e (claimR e (p + 1) k) := fun {e} he hoe => by
        rcases Nat.eq_zero_or_pos k with hk | hk
        · subst hk; exact op_refl hoe
        · exact (op_claim k he hk (by omega) fun j hj => by
            have := hA (j + 1) (by omega)
            rw [show p + 1 + j = p + (j + 1) by omega]; exact this)
      split
      · have h1 : Op A n d (Dk.write d (p : Int) Dk.blank) := op_write h (hA 0 (by omega)) (by omega) Dk.sec_blank
        exact h1.bnd fun h0 => hgo (h1.ro.near h) (h1.on h0)
      · exact hgo h ho
theorem claim_eff {n : Nat} : ∀ (k : Nat) {d : Dk.Dev} {p : Nat}, Wl.Near n d → p + k ≤ n → (∀ j, j < k → QS d (p + j)) →
    (∀ i, lv (claimR d p k).1 i = lv d i) ∧ ∀ i, wv (claimR d p k).1 i = wv d i ∨ (p ≤ i ∧ i < p + k ∧ wv (claimR d p k).1 i = some (lv d i))
  | 0, _, _, _, _, _ => ⟨fun _ => rfl, fun _ => Or.inl rfl⟩
  | k + 1, d, p, h, hp, hq => by
    unfold claimR
    cases ho : d.off with
    | true =>
      rw [read_near h (by omega), if_pos ho]
      exact ⟨fun _ => rfl, fun _ => Or.inl rfl⟩
    | false =>
      rw [read_on h ho (by omega)]
      dsimp only
      rw [if_neg (show ¬ ((0 : Nat) ≠ 0) by decide)]
      split
      · next hb =>
        have hb : Dk.sv d p = Dk.blank := hb
        have hq0 := hq 0 (by omega)
        rw [Nat.add_zero] at hq0
        rw [sv_quiet hq0] at hb
        obtain ⟨w1, w2, w3⟩ := write_eff h (i := p) (by omega) Dk.sec_blank
        by_cases h0 : (Dk.write d (p : Int) Dk.blank).2 = 0
        · rw [bnd_go _ h0]
          have hN := ((Ro.refl d).write (A := fun _ => True) (n := n) (i := p) trivial (by omega) Dk.sec_blank).near h
          have hw := w3 h0
          obtain ⟨r1, r2⟩ := claim_eff k (p := p + 1) hN (by omega) fun j hj x hx => by
            rw [hw, if_neg (by omega)] at hx
            rw [w1]
            exact hq (j + 1) (by omega) x (by rw [← hx]; congr 1; omega) |>.trans (by congr 1; omega)
          refine ⟨fun i => (r1 i).trans (w1 i), fun i => ?_⟩
          rcases r2 i with e | ⟨e1, e2, e3⟩
          · rw [e, hw i]
            by_cases ei : i = p
            · refine Or.inr ⟨by omega, by omega, ?_⟩
              rw [if_pos ei, ei, hb]
            · exact Or.inl (if_neg ei)
          · exact Or.inr ⟨by omega, by omega, by rw [e3, w1]⟩
        · rw [bnd_stop _ h0]
          refine ⟨w1, fun i => ?_⟩
          rcases w2 i with e | ⟨e1, e2⟩
          · exact Or.inl e
          · exact Or.inr ⟨by omega, by omega, by rw [e2, e1, hb]⟩
      · obtain ⟨r1, r2⟩ := claim_eff k (p := p + 1) h (by omega) fun j hj => by
          have := hq (j + 1) (by omega)
          rw [show p + 1 + j = p + (j + 1) by omega]; exact this
        refine ⟨r1, fun i => ?_⟩
        rcases r2 i with e | ⟨e1, e2, e3⟩
        · exact Or.inl e
        · exact Or.inr ⟨by omega, by omega, e3⟩
end Go.Proofs.YtbpodmallknhfaaGreat.Rg
namespace Go.Proofs.YtbpodmallknhfaaGreat.Rg
open Go.Proofs.YtbpodmallknhfaaGreat
structure Lies (n S b N : Nat) : Prop where
  one : 1 ≤ N
  spare : S + 5 ≤ n
  base : b + 4 * N ≤ n
  apart : S + 5 ≤ b ∨ b + 4 * N ≤ S
def Has (S b N i : Nat) : Prop := (S ≤ i ∧ i < S + 5) ∨ (b ≤ i ∧ i < b + 4 * N)
theorem Lies.has {n S b N i : Nat} (h : Lies n S b N) (hi : Has S b N i) : i < n := by
  have h1 := h.spare
  have h2 := h.base
  rcases hi with hi | hi <;> omega
def sp (d : Dk.Dev) (S : Nat) : List Nat := lv d S ++ (lv d (S + 1) ++ (lv d (S + 2) ++ (lv d (S + 3) ++ lv d (S + 4))))
def hm (d : Dk.Dev) (p : Nat) : List Nat := lv d p ++ (lv d (p + 1) ++ (lv d (p + 2) ++ lv d (p + 3)))
def Home (d : Dk.Dev) (p : Nat) (x : Po.Pg) : Prop := Pg.openE (hm d p) = 0 ∧ x = (Pg.openN (hm d p), Pg.openL (hm d p))
def NoN (d : Dk.Dev) (S N : Nat) : Prop := ∀ n x, Whole (sp d S) n x → ¬ n < N
theorem sp_eq {d e : Dk.Dev} {S : Nat} (h : ∀ j, j < 5 → lv e (S + j) = lv d (S + j)) : sp e S = sp d S := by
  unfold sp
  have h0 := h 0 (by decide)
  rw [Nat.add_zero] at h0
  rw [h0, h 1 (by decide), h 2 (by decide), h 3 (by decide), h 4 (by decide)]
theorem hm_eq {d e : Dk.Dev} {p : Nat} (h : ∀ j, j < 4 → lv e (p + j) = lv d (p + j)) : hm e p = hm d p := by
  unfold hm
  have h0 := h 0 (by decide)
  rw [Nat.add_zero] at h0
  rw [h0, h 1 (by decide), h 2 (by decide), h 3 (by decide)]
theorem Home.eq {d e : Dk.Dev} {p : Nat} {x : Po.Pg} (h : Home d p x) (k : ∀ j, j < 4 → lv e (p + j) = lv d (p + j)) : Home e p x := by
  unfold Home at *
  rw [hm_eq k]; exact h
theorem home_form {d : Dk.Dev} {p : Nat} {y : Po.Pg} (hy : Po.PgOk y) (h : hm d p = Pg.form y.1 y.2) : Home d p y := by
  unfold Home
  rw [h, Pg.openE_form hy.2.2 hy.2.1, Pg.openN_form hy.2.2 hy.2.1 hy.1, Pg.openL_form hy.2.2 hy.2.1]
  exact ⟨rfl, rfl⟩
theorem NoN.eq {d e : Dk.Dev} {S N : Nat} (h : NoN d S N) (k : sp e S = sp d S) : NoN e S N := by
  unfold NoN at *
  rw [k]; exact h
theorem lv_len {n : Nat} {d : Dk.Dev} (h : Wl.Near n d) {i : Nat} (hi : i < n) : (lv d i).length = 128 := Wl.lasts_len h.ok (by rw [h.sz]; exact hi)
theorem sp_length {n S : Nat} {d : Dk.Dev} (h : Wl.Near n d) (hS : S + 5 ≤ n) : (sp d S).length = 640 := by
  unfold sp
  simp only [List.length_append, lv_len h (show S < n by omega), lv_len h (show S + 1 < n by omega), lv_len h (show S + 2 < n by omega), lv_len h (show S + 3 < n by omega), lv_len h (show S + 4 < n by omega)]
theorem part_two {a c : List Nat} (ha : a.length = 128) (i : Nat) : part 64 (a ++ c) i = if i < 2 then part 64 a i else part 64 c (i - 2) := by
  split
  · next h => exact part_pre (by omega)
  · next h =>
    unfold part
    rw [List.drop_append, ha, List.drop_eq_nil_of_le (by omega), List.nil_append, show 64 * i - 128 = 64 * (i - 2) by omega]
theorem sp_part {n S : Nat} {d : Dk.Dev} (h : Wl.Near n d) (hS : S + 5 ≤ n) {j k : Nat} (hj : j < 5) (hk : k < 2) : part 64 (sp d S) (2 * j + k) = part 64 (lv d (S + j)) k := by
  have l0 := lv_len h (show S < n by omega)
  have l1 := lv_len h (show S + 1 < n by omega)
  have l2 := lv_len h (show S + 2 < n by omega)
  have l3 := lv_len h (show S + 3 < n by omega)
  unfold sp
  rw [part_two l0]
  obtain rfl | rfl | rfl | rfl | rfl : j = 0 ∨ j = 1 ∨ j = 2 ∨ j = 3 ∨ j = 4 := by omega
  · rw [if_pos (by omega)]; congr 1; omega
  · rw [if_neg (by omega), part_two l1, if_pos (by omega)]; congr 1; omega
  · rw [if_neg (by omega), part_two l1, if_neg (by omega), part_two l2, if_pos (by omega)]; congr 1; omega
  · rw [if_neg (by omega), part_two l1, if_neg (by omega), part_two l2, if_neg (by omega), part_two l3, if_pos (by omega)]; congr 1; omega
  · rw [if_neg (by omega), part_two l1, if_neg (by omega), part_two l2, if_neg (by omega), part_two l3, if_neg (by omega)]; congr 1; omega
theorem part_part (l : List Nat) {j k : Nat} (hk : k < 2) : part 64 (part 128 l j) k = part 64 l (2 * j + k) := by
  unfold part
  rw [List.drop_take, List.take_take, List.drop_drop, show 128 * j + 64 * k = 64 * (2 * j + k) by omega]
  congr 1; omega
theorem pick_part {a b : List Nat} (ha : a.length = 128) (hb : b.length = 128) (p : Nat) {k : Nat} (hk : k < 2) : part 64 (Dk.pick p a b) k = part 64 a k ∨ part 64 (Dk.pick p a b) k = part 64 b k := Wl.hf_pick ha hb p hk
theorem sp_whole {d : Dk.Dev} {S : Nat} {nb : List Nat} (hl : nb.length = 640) (h : ∀ j, j < 5 → lv d (S + j) = part 128 nb j) : sp d S = nb := by
  have e := join_parts 128 nb 5
  rw [List.take_of_length_le (by omega)] at e
  have h0 := h 0 (by decide)
  rw [Nat.add_zero] at h0
  unfold sp
  rw [h0, h 1 (by decide), h 2 (by decide), h 3 (by decide), h 4 (by decide)]
  conv => rhs; rw [← e]
  rw [show List.range 5 = [0, 1, 2, 3, 4] from rfl]
  simp only [List.flatMap_cons, List.flatMap_nil, List.append_nil]
theorem hm_whole {d : Dk.Dev} {p : Nat} {fm : List Nat} (hl : fm.length = 512) (h : ∀ j, j < 4 → lv d (p + j) = (Dk.secs fm).getD j []) : hm d p = fm := by
  have h0 := h 0 (by decide)
  rw [Nat.add_zero] at h0
  unfold hm
  rw [h0, h 1 (by decide), h 2 (by decide), h 3 (by decide)]
  exact Dk.secs_join hl
structure HwN (S b N : Nat) (d : Dk.Dev) (f : Nat → Po.Pg) : Prop where
  idle : ∀ i, Has S b N i → wv d i = none
  no : NoN d S N
  home : ∀ k, k < N → Home d (b + 4 * k) (f k)
structure HpN (S b N : Nat) (d : Dk.Dev) (c : Nat → Po.Pg → Prop) : Prop where
  idle : ∀ i, Has S b N i → wv d i = none
  pages : ∃ f : Nat → Po.Pg, (∀ k, Po.PgOk (f k)) ∧ (∀ k, k < N → c k (f k)) ∧ ((NoN d S N ∧ ∀ k, k < N → Home d (b + 4 * k) (f k)) ∨ (∃ m, m < N ∧ Whole (sp d S) m (f m) ∧ ∀ k, k < N → k ≠ m → Home d (b + 4 * k) (f k)))
theorem HpN.mono {S b N : Nat} {d : Dk.Dev} {c c' : Nat → Po.Pg → Prop} (h : HpN S b N d c) (hc : ∀ k x, c k x → c' k x) : HpN S b N d c' := by
  obtain ⟨f, h1, h2, h3⟩ := h.pages
  exact ⟨h.idle, f, h1, fun k hk => hc k _ (h2 k hk), h3⟩
section
variable {n S b N : Nat} {d : Dk.Dev} {f : Nat → Po.Pg}
theorem crash_idle (h : Wl.Near n d) (hL : Lies n S b N) (ps : List Nat) : ∀ i, Has S b N i → wv (Dk.crash d ps) i = none := fun i hi => (crash_eff h ps (hL.has hi)).1
theorem home_has {k j : Nat} (hk : k < N) (hj : j < 4) : Has S b N (b + 4 * k + j) := Or.inr (by omega)
theorem spare_has {j : Nat} (hj : j < 5) : Has S b N (S + j) := Or.inl (by omega)
theorem HwN.quiet (h : HwN S b N d f) {i : Nat} (hi : Has S b N i) : QS d i := fun x hx => by rw [h.idle i hi] at hx; cases hx
structure StL (S b N : Nat) (nb : List Nat) (d : Dk.Dev) (f : Nat → Po.Pg) : Prop where
  no : NoN d S N
  spare : ∀ j, j < 5 → ∀ x, wv d (S + j) = some x → x = lv d (S + j) ∨ x = part 128 nb j
  quiet : ∀ k, k < N → ∀ j, j < 4 → QS d (b + 4 * k + j)
  home : ∀ k, k < N → Home d (b + 4 * k) (f k)
structure StW (S b N m : Nat) (y : Po.Pg) (d : Dk.Dev) (f : Nat → Po.Pg) : Prop where
  whole : Whole (sp d S) m y
  spare : ∀ j, j < 5 → QS d (S + j)
  quiet : ∀ k, k < N → k ≠ m → ∀ j, j < 4 → QS d (b + 4 * k + j)
  home : ∀ k, k < N → k ≠ m → Home d (b + 4 * k) (f k)
structure StZ (S b N m : Nat) (y : Po.Pg) (d : Dk.Dev) (g : Nat → Po.Pg) : Prop where
  whole : Whole (sp d S) m y
  spare : ∀ j, j < 5 → ∀ x, wv d (S + j) = some x → x = lv d (S + j) ∨ (j = 0 ∧ x = Dk.blank)
  quiet : ∀ k, k < N → ∀ j, j < 4 → QS d (b + 4 * k + j)
  home : ∀ k, k < N → Home d (b + 4 * k) (g k)
theorem StL.crash {m t : Nat} {y : Po.Pg} (hN : Wl.Near n d) (hL : Lies n S b N) (h : StL S b N (laid (Pg.form y.1 y.2) (tag m t)) d f) (hf : ∀ k, Po.PgOk (f k)) (hy : Po.PgOk y) (hm : m < N) (h6 : m < 65536) (ht : t ∉ had (sp d S) 10) (ps : List Nat) :
    HpN S b N (Dk.crash d ps) fun k x => x = f k ∨ (k = m ∧ x = y) := by
  have hS := hL.spare
  have hB := hL.base
  have hfl : (Pg.form y.1 y.2).length = 512 := by rw [Pg.form_length, hy.2.1]
  have hlay := laid_length (t := tag m t) (b := Pg.form y.1 y.2) (tag_length m t) hfl
  have hNc : Wl.Near n (Dk.crash d ps) := ⟨Dk.ok_crash hN.ok ps, (hN.crash ps).sz, (hN.crash ps).most⟩
  have hhome : ∀ k, k < N → Home (Dk.crash d ps) (b + 4 * k) (f k) := fun k hk => (h.home k hk).eq fun j hj => crash_quiet hN ps (by omega) (h.quiet k hk j hj)
  have hmix : Mix (sp d S) (laid (Pg.form y.1 y.2) (tag m t)) (sp (Dk.crash d ps) S) := by
    refine ⟨sp_length hNc hS, fun i hi => ?_⟩
    obtain ⟨j, k, hj, hk, rfl⟩ : ∃ j k, j < 5 ∧ k < 2 ∧ i = 2 * j + k := ⟨i / 2, i % 2, by omega, by omega, by omega⟩
    rw [sp_part hNc hS hj hk, sp_part hN hS hj hk]
    obtain ⟨-, c1, c2⟩ := crash_eff hN ps (k := S + j) (by omega)
    cases hw : wv d (S + j) with
    | none => rw [c1 hw]; exact Or.inl rfl
    | some x =>
      obtain ⟨p, e⟩ := c2 x hw
      rw [e]
      rcases h.spare j hj x hw with rfl | rfl
      · rw [Wl.pick_same]; exact Or.inl rfl
      · rw [← part_part _ hk]
        exact pick_part (lv_len hN (by omega)) (part_length (by rw [hlay]; omega)) p hk
  by_cases hno : NoN (Dk.crash d ps) S N
  · exact ⟨crash_idle hN hL ps, f, hf, fun k _ => Or.inl rfl, Or.inl ⟨hno, hhome⟩⟩
  · obtain ⟨k, x, hw, hk⟩ : ∃ k x, Whole (sp (Dk.crash d ps) S) k x ∧ k < N := by
      unfold NoN at hno
      simp only [Classical.not_forall, Classical.not_not] at hno
      obtain ⟨k, x, h1, h2⟩ := hno
      exact ⟨k, x, h1, h2⟩
    rcases mix_told (sp_length hN hS) hfl ht hmix hw.1 with e | e
    · rw [e] at hw
      exact absurd hk (h.no k x hw)
    · have hwl := whole_laid (t := t) hy h6
      rw [← e] at hwl
      refine ⟨crash_idle hN hL ps, Po.upd f m y, fun k => ?_, fun k _ => ?_, Or.inr ⟨m, hm, ?_, fun k hk hne => ?_⟩⟩
      · unfold Po.upd
        split
        · exact hy
        · exact hf k
      · unfold Po.upd
        split
        · next e => exact Or.inr ⟨e, rfl⟩
        · exact Or.inl rfl
      · rw [Po.upd_self]; exact hwl
      · rw [Po.upd_ne f y hne]; exact hhome k hk
theorem StW.crash {m : Nat} {y : Po.Pg} (hN : Wl.Near n d) (hL : Lies n S b N) (h : StW S b N m y d f) (hf : ∀ k, Po.PgOk (f k)) (hy : Po.PgOk y) (hm : m < N) (ps : List Nat) :
    HpN S b N (Dk.crash d ps) fun k x => x = Po.upd f m y k := by
  have hS := hL.spare
  have hB := hL.base
  refine ⟨crash_idle hN hL ps, Po.upd f m y, fun k => ?_, fun k _ => rfl, Or.inr ⟨m, hm, ?_, fun k hk hne => ?_⟩⟩
  · unfold Po.upd
    split
    · exact hy
    · exact hf k
  · rw [Po.upd_self, sp_eq fun j hj => crash_quiet hN ps (by omega) (h.spare j hj)]
    exact h.whole
  · rw [Po.upd_ne f y hne]
    exact (h.home k hk hne).eq fun j hj => crash_quiet hN ps (by omega) (h.quiet k hk hne j hj)
theorem StZ.crash {m : Nat} {y : Po.Pg} {g : Nat → Po.Pg} (hN : Wl.Near n d) (hL : Lies n S b N) (h : StZ S b N m y d g) (hg : ∀ k, Po.PgOk (g k)) (hm : m < N) (hgy : g m = y) (ps : List Nat) :
    HpN S b N (Dk.crash d ps) fun k x => x = g k := by
  have hS := hL.spare
  have hB := hL.base
  have hNc : Wl.Near n (Dk.crash d ps) := ⟨Dk.ok_crash hN.ok ps, (hN.crash ps).sz, (hN.crash ps).most⟩
  have hhome : ∀ k, k < N → Home (Dk.crash d ps) (b + 4 * k) (g k) := fun k hk => (h.home k hk).eq fun j hj => crash_quiet hN ps (by omega) (h.quiet k hk j hj)
  by_cases hno : NoN (Dk.crash d ps) S N
  · exact ⟨crash_idle hN hL ps, g, hg, fun k _ => rfl, Or.inl ⟨hno, hhome⟩⟩
  · obtain ⟨k, x, hw, hk⟩ : ∃ k x, Whole (sp (Dk.crash d ps) S) k x ∧ k < N := by
      unfold NoN at hno
      simp only [Classical.not_forall, Classical.not_not] at hno
      obtain ⟨k, x, h1, h2⟩ := hno
      exact ⟨k, x, h1, h2⟩
    have hpart : ∀ j k, j < 5 → k < 2 → part 64 (lv (Dk.crash d ps) (S + j)) k = part 64 (lv d (S + j)) k := fun j k hj hk => by
      obtain ⟨-, c1, c2⟩ := crash_eff hN ps (k := S + j) (by omega)
      cases hwv : wv d (S + j) with
      | none => rw [c1 hwv]
      | some x =>
        obtain ⟨p, e⟩ := c2 x hwv
        rcases h.spare j hj x hwv with rfl | ⟨rfl, rfl⟩
        · rw [e, Wl.pick_same]
        · rcases pick_part (lv_len hN (i := S + 0) (by omega)) (show Dk.blank.length = 128 by unfold Dk.blank; rw [List.length_replicate]) p hk with e2 | e2
          · rw [e]; exact e2
          · exfalso
            have e3 : part 64 (sp (Dk.crash d ps) S) k = part 64 Dk.blank k := by
              have := sp_part hNc hS (j := 0) (k := k) (by decide) hk
              rw [Nat.mul_zero, Nat.zero_add] at this
              rw [this, e, e2]
            have ht := hw.1 k (by omega)
            rw [e3] at ht
            have h0 : ((part 64 Dk.blank k).take 12).getD 0 0 = 0 := by
              obtain rfl | rfl : k = 0 ∨ k = 1 := by omega
              · rfl
              · rfl
            rw [ht] at h0
            exact absurd h0 (by show ¬ (112 : Nat) = 0; decide)
    have e : sp (Dk.crash d ps) S = sp d S := ext_parts (sp_length hNc hS) (sp_length hN hS) fun i hi => by
      obtain ⟨j, k, hj, hk, rfl⟩ : ∃ j k, j < 5 ∧ k < 2 ∧ i = 2 * j + k := ⟨i / 2, i % 2, by omega, by omega, by omega⟩
      rw [sp_part hNc hS hj hk, sp_part hN hS hj hk, hpart j k hj hk]
    exact ⟨crash_idle hN hL ps, g, hg, fun k _ => rfl, Or.inr ⟨m, hm, by rw [e, hgy]; exact h.whole, fun k hk _ => hhome k hk⟩⟩
end
section
variable {n S b N : Nat} {f : Nat → Po.Pg}
theorem settle_safe {m : Nat} {y : Po.Pg} {d : Dk.Dev} (hN : Wl.Near n d) (hL : Lies n S b N) (h : StW S b N m y d f) (hf : ∀ k, Po.PgOk (f k)) (hy : Po.PgOk y) (hm : m < N) :
    ((settleR d S (b + 4 * m) (Pg.form y.1 y.2)).2 = 0 → HwN S b N (settleR d S (b + 4 * m) (Pg.form y.1 y.2)).1 (Po.upd f m y)) ∧
    ((settleR d S (b + 4 * m) (Pg.form y.1 y.2)).2 ≠ 0 → ∀ ps, HpN S b N (Dk.crash (settleR d S (b + 4 * m) (Pg.form y.1 y.2)).1 ps) fun k x => x = Po.upd f m y k) := by
  have hS := hL.spare
  have hB := hL.base
  have hap := hL.apart
  have hfl : (Pg.form y.1 y.2).length = 512 := by rw [Pg.form_length, hy.2.1]
  have hg : ∀ k, Po.PgOk (Po.upd f m y k) := fun k => by
    unfold Po.upd
    split
    · exact hy
    · exact hf k
  have hsec := Dk.secs_sec hfl (Pg.form_lt (n := y.1) hy.2.2)
  have hsl := Dk.secs_length (Pg.form y.1 y.2)
  unfold settleR
  obtain ⟨w1, w2, w3⟩ := wrs_eff (Dk.secs (Pg.form y.1 y.2)) (d := d) (p := b + 4 * m) hN hsec (by omega)
  have hN1 : Wl.Near n (Dk.wrs d (b + 4 * m) (Dk.secs (Pg.form y.1 y.2))).1 := by
    rcases Bool.eq_false_or_eq_true d.off with ho | ho
    · have : Dk.wrs d (b + 4 * m) (Dk.secs (Pg.form y.1 y.2)) = (d, 6) := by
        unfold Dk.secs Dk.wrs
        rw [near_off ho]
        exact if_pos (show (6 : Nat) ≠ 0 by decide)
      rw [this]; exact hN
    · exact (op_wrs (A := fun _ => True) (Dk.secs (Pg.form y.1 y.2)) hN ho hsec (by omega) fun _ _ => trivial).ro.near hN
  generalize Dk.wrs d (b + 4 * m) (Dk.secs (Pg.form y.1 y.2)) = r1 at *
  have hW1 : StW S b N m y r1.1 f := by
    refine ⟨by rw [sp_eq fun j _ => w1 _]; exact h.whole, fun j hj x hx => ?_, fun k hk hne j hj x hx => ?_, fun k hk hne => (h.home k hk hne).eq fun j _ => w1 _⟩
    · rw [w1]
      rcases w2 (S + j) with e | ⟨e1, e2, -⟩
      · rw [e] at hx; exact h.spare j hj x hx
      · omega
    · rw [w1]
      rcases w2 (b + 4 * k + j) with e | ⟨e1, e2, -⟩
      · rw [e] at hx; exact h.quiet k hk hne j hj x hx
      · omega
  by_cases h1 : r1.2 = 0
  case neg => rw [bnd_stop _ h1]; exact ⟨fun e => absurd e h1, fun _ ps => hW1.crash hN1 hL hf hy hm ps⟩
  rw [bnd_go _ h1]
  have hw := w3 h1
  have hN2 := (op_sync (A := fun _ => True) hN1).ro.near hN1
  have q2 : ∀ {k}, k < n → QS r1.1 k → (Dk.sync r1.1).2 = 0 → lv (Dk.sync r1.1).1 k = lv r1.1 k ∧ wv (Dk.sync r1.1).1 k = none := fun hk hq h0 => sync_quiet hN1 h0 hk hq
  obtain ⟨s1, s2⟩ := sync_eff hN1
  generalize Dk.sync r1.1 = r2 at *
  by_cases h2 : r2.2 = 0
  case neg =>
    rw [bnd_stop _ h2]
    have e := s2 h2
    refine ⟨fun e => absurd e h2, fun _ ps => StW.crash hN2 hL ⟨by rw [sp_eq fun j _ => (e _).1]; exact hW1.whole, fun j hj x hx => ?_, fun k hk hne j hj x hx => ?_, fun k hk hne => (hW1.home k hk hne).eq fun j _ => (e _).1⟩ hf hy hm ps⟩
    · rw [(e _).2] at hx; rw [(e _).1]; exact hW1.spare j hj x hx
    · rw [(e _).2] at hx; rw [(e _).1]; exact hW1.quiet k hk hne j hj x hx
  rw [bnd_go _ h2]
  have e2 := s1 h2
  have hZ : ∀ i, Has S b N i → wv r2.1 i = none := fun i hi => (e2 i (hL.has hi)).2
  have hsp2 : sp r2.1 S = sp d S := by
    rw [sp_eq fun j hj => (q2 (by omega) (hW1.spare j hj) h2).1]
    exact sp_eq fun j _ => w1 _
  have hhm2 : ∀ k, k < N → Home r2.1 (b + 4 * k) (Po.upd f m y k) := fun k hk => by
    by_cases e : k = m
    · subst e
      rw [Po.upd_self]
      refine home_form hy (hm_whole hfl fun j hj => ?_)
      rw [(e2 (b + 4 * k + j) (by omega)).1, hw, if_pos (by omega), show b + 4 * k + j - (b + 4 * k) = j by omega]
      rfl
    · rw [Po.upd_ne f y e]
      exact (hW1.home k hk e).eq fun j hj => (q2 (by omega) (hW1.quiet k hk e j hj) h2).1
  obtain ⟨b1, b2, b3⟩ := write_eff hN2 (i := S) (by omega) Dk.sec_blank
  have hN3 := (op_write (A := fun _ => True) hN2 (i := S) trivial (by omega) Dk.sec_blank).ro.near hN2
  generalize Dk.write r2.1 (S : Int) Dk.blank = r3 at *
  have hZ3 : StZ S b N m y r3.1 (Po.upd f m y) := by
    refine ⟨by rw [sp_eq fun j _ => b1 _, hsp2]; exact h.whole, fun j hj x hx => ?_, fun k hk j hj x hx => ?_, fun k hk => (hhm2 k hk).eq fun j _ => b1 _⟩
    · rcases b2 (S + j) with e | ⟨e1, e3⟩
      · rw [e, hZ _ (spare_has hj)] at hx; cases hx
      · rw [e3] at hx
        cases hx
        exact Or.inr ⟨by omega, rfl⟩
    · rcases b2 (b + 4 * k + j) with e | ⟨e1, e3⟩
      · rw [e, hZ _ (home_has hk hj)] at hx; cases hx
      · omega
  by_cases h3 : r3.2 = 0
  case neg => rw [bnd_stop _ h3]; exact ⟨fun e => absurd e h3, fun _ ps => hZ3.crash hN3 hL hg hm (Po.upd_self f m y) ps⟩
  rw [bnd_go _ h3]
  have hb := b3 h3
  have hN4 := (op_sync (A := fun _ => True) hN3).ro.near hN3
  have q4 : ∀ {k}, k < n → QS r3.1 k → (Dk.sync r3.1).2 = 0 → lv (Dk.sync r3.1).1 k = lv r3.1 k ∧ wv (Dk.sync r3.1).1 k = none := fun hk hq h0 => sync_quiet hN3 h0 hk hq
  obtain ⟨t1, t2⟩ := sync_eff hN3
  generalize Dk.sync r3.1 = r4 at *
  refine ⟨fun h4 => ?_, fun h4 ps => ?_⟩
  · have e4 := t1 h4
    refine ⟨fun i hi => (e4 i (hL.has hi)).2, fun k x hwh => ?_, fun k hk => (hZ3.home k hk).eq fun j hj => (q4 (by omega) (hZ3.quiet k hk j hj) h4).1⟩
    exfalso
    have e5 : lv r4.1 S = Dk.blank := by rw [(e4 S (by omega)).1, hb, if_pos rfl]; rfl
    have e6 := (told_first hwh.1).1
    unfold sp at e6
    rw [e5] at e6
    exact absurd e6 (by show ¬ (0 : Nat) = 112; decide)
  · have e := t2 h4
    refine StZ.crash (y := y) hN4 hL ⟨by rw [sp_eq fun j _ => (e _).1]; exact hZ3.whole, fun j hj x hx => ?_, fun k hk j hj x hx => ?_, fun k hk => (hZ3.home k hk).eq fun j _ => (e _).1⟩ hg hm (Po.upd_self f m y) ps
    · rw [(e _).2] at hx; rw [(e _).1]; exact hZ3.spare j hj x hx
    · rw [(e _).2] at hx; rw [(e _).1]; exact hZ3.quiet k hk j hj x hx
end
end Go.Proofs.YtbpodmallknhfaaGreat.Rg
namespace Go.Proofs.YtbpodmallknhfaaGreat.Rg
open Go.Proofs.YtbpodmallknhfaaGreat
theorem part_sec {l : List Nat} (hl : l.length = 640) (hb : ∀ x ∈ l, x < 256) {j : Nat} (hj : j < 5) : Dk.Sec (part 128 l j) := ⟨part_length (by omega), part_lt hb j⟩
theorem secs5_length (b : List Nat) : (secs5 b).length = 5 := rfl
theorem secs5_sec {l : List Nat} (hl : l.length = 640) (hb : ∀ x ∈ l, x < 256) : ∀ s ∈ secs5 l, Dk.Sec s := by
  intro s hs
  obtain ⟨j, hj, rfl⟩ := List.mem_map.1 hs
  exact part_sec hl hb (List.mem_range.1 hj)
theorem secs5_at (b : List Nat) {j : Nat} (hj : j < 5) : (secs5 b).getD j [] = part 128 b j := by
  obtain rfl | rfl | rfl | rfl | rfl : j = 0 ∨ j = 1 ∨ j = 2 ∨ j = 3 ∨ j = 4 := by omega
  all_goals rfl
section
variable {n S b N : Nat} {d : Dk.Dev} {f : Nat → Po.Pg}
theorem op_settle (hN : Wl.Near n d) (ho : d.off = false) (hL : Lies n S b N) {m : Nat} (hm : m < N) {fm : List Nat} (hl : fm.length = 512) (hb : ∀ x ∈ fm, x < 256) : Op (Has S b N) n d (settleR d S (b + 4 * m) fm) := by
  have hS := hL.spare
  have hB := hL.base
  have h1 : Op (Has S b N) n d (Dk.wrs d (b + 4 * m) (Dk.secs fm)) := op_wrs _ hN ho (Dk.secs_sec hl hb) (by rw [Dk.secs_length]; omega) fun j hj => home_has hm (by rw [Dk.secs_length] at hj; exact hj)
  refine h1.bnd fun h0 => ?_
  have hN1 := h1.ro.near hN
  generalize Dk.wrs d (b + 4 * m) (Dk.secs fm) = r1 at *
  have h2 : Op (Has S b N) n r1.1 (Dk.sync r1.1) := op_sync hN1
  refine h2.bnd fun h0 => ?_
  have hN2 := h2.ro.near hN1
  generalize Dk.sync r1.1 = r2 at *
  have h3 : Op (Has S b N) n r2.1 (Dk.write r2.1 (S : Int) Dk.blank) := op_write hN2 (Or.inl (by omega)) (by omega) Dk.sec_blank
  exact h3.bnd fun h0 => op_sync (h3.ro.near hN2)
theorem op_lay (hN : Wl.Near n d) (ho : d.off = false) (hL : Lies n S b N) {nb : List Nat} (hl : nb.length = 640) (hb : ∀ x ∈ nb, x < 256) : Op (Has S b N) n d (layR d S nb) := by
  have hS := hL.spare
  have h1 : Op (Has S b N) n d (Dk.wrs d S (secs5 nb)) := op_wrs _ hN ho (secs5_sec hl hb) (by rw [secs5_length]; omega) fun j hj => spare_has (by rw [secs5_length] at hj; exact hj)
  exact h1.bnd fun h0 => op_sync (h1.ro.near hN)
theorem op_writeR (hN : Wl.Near n d) (hL : Lies n S b N) {m : Nat} (hm : m < N) {fm nb : List Nat} (hl : fm.length = 512) (hb : ∀ x ∈ fm, x < 256) (hl5 : nb.length = 640) (hb5 : ∀ x ∈ nb, x < 256) : Op (Has S b N) n d (writeR d S (b + 4 * m) fm nb) := by
  have hB := hL.base
  have h1 : Op (Has S b N) n d (claimR d (b + 4 * m) 4) := op_claim 4 hN (by decide) (by omega) fun j hj => home_has hm hj
  refine h1.bnd fun h0 => ?_
  have hN1 := h1.ro.near hN
  have ho1 := h1.on h0
  generalize claimR d (b + 4 * m) 4 = r1 at *
  have h2 := op_lay hN1 ho1 hL hl5 hb5
  refine h2.bnd fun h0 => ?_
  exact op_settle (h2.ro.near hN1) (h2.on h0) hL hm hl hb
theorem write_safe {m t : Nat} {y : Po.Pg} (hN : Wl.Near n d) (hL : Lies n S b N) (h : HwN S b N d f) (hf : ∀ k, Po.PgOk (f k)) (hy : Po.PgOk y) (hm : m < N) (h6 : m < 65536) (ht : t < 256) (htn : t ∉ had (sp d S) 10) :
    ((writeR d S (b + 4 * m) (Pg.form y.1 y.2) (laid (Pg.form y.1 y.2) (tag m t))).2 = 0 → HwN S b N (writeR d S (b + 4 * m) (Pg.form y.1 y.2) (laid (Pg.form y.1 y.2) (tag m t))).1 (Po.upd f m y)) ∧
    ((writeR d S (b + 4 * m) (Pg.form y.1 y.2) (laid (Pg.form y.1 y.2) (tag m t))).2 ≠ 0 → ∀ ps, HpN S b N (Dk.crash (writeR d S (b + 4 * m) (Pg.form y.1 y.2) (laid (Pg.form y.1 y.2) (tag m t))).1 ps) fun k x => x = f k ∨ (k = m ∧ x = y)) := by
  have hS := hL.spare
  have hB := hL.base
  have hap := hL.apart
  have hfl : (Pg.form y.1 y.2).length = 512 := by rw [Pg.form_length, hy.2.1]
  have hlay := laid_length (t := tag m t) (b := Pg.form y.1 y.2) (tag_length m t) hfl
  have hlb := laid_lt (tag_lt (n := m) ht) (Pg.form_lt (n := y.1) hy.2.2)
  have hwl := whole_laid (t := t) hy h6
  have hcr := @StL.crash n S b N
  unfold writeR
  have c0 : Op (Has S b N) n d (claimR d (b + 4 * m) 4) := op_claim 4 hN (by decide) (by omega) fun j hj => home_has hm hj
  obtain ⟨c1, c2⟩ := claim_eff 4 hN (by omega) fun j hj => h.quiet (home_has (S := S) hm hj)
  have hN1 := c0.ro.near hN
  generalize claimR d (b + 4 * m) 4 = r1 at *
  generalize hnb : laid (Pg.form y.1 y.2) (tag m t) = nb at *
  have hq1 : ∀ i, Has S b N i → QS r1.1 i := fun i hi x hx => by
    rcases c2 i with e | ⟨-, -, e⟩
    · rw [e, h.idle i hi] at hx; cases hx
    · rw [e] at hx
      cases hx
      exact (c1 i).symm
  have hsp1 : sp r1.1 S = sp d S := sp_eq fun j _ => c1 _
  have hL1 : StL S b N nb r1.1 f := ⟨h.no.eq hsp1, fun j hj x hx => Or.inl (hq1 _ (spare_has hj) x hx), fun k hk j hj => hq1 _ (home_has hk hj), fun k hk => (h.home k hk).eq fun j _ => c1 _⟩
  have hcrash : ∀ {e : Dk.Dev}, Wl.Near n e → sp e S = sp d S → StL S b N nb e f → ∀ ps, HpN S b N (Dk.crash e ps) fun k x => x = f k ∨ (k = m ∧ x = y) := fun {e} he hse hst ps => by
    rw [← hnb] at hst
    exact hst.crash he hL hf hy hm h6 (by rw [hse]; exact htn) ps
  by_cases h1 : r1.2 = 0
  case neg => rw [bnd_stop _ h1]; exact ⟨fun e => absurd e h1, fun _ => hcrash hN1 hsp1 hL1⟩
  rw [bnd_go _ h1]
  have ho1 := c0.on h1
  unfold layR
  obtain ⟨w1, w2, w3⟩ := wrs_eff (secs5 nb) (d := r1.1) (p := S) hN1 (secs5_sec hlay hlb) (by rw [secs5_length]; omega)
  have hN2 : Wl.Near n (Dk.wrs r1.1 S (secs5 nb)).1 := (op_wrs (A := Has S b N) (secs5 nb) hN1 ho1 (secs5_sec hlay hlb) (by rw [secs5_length]; omega) fun j hj => spare_has (by rw [secs5_length] at hj; exact hj)).ro.near hN1
  generalize Dk.wrs r1.1 S (secs5 nb) = r2 at *
  rw [secs5_length] at w2 w3
  have hsp2 : sp r2.1 S = sp d S := (sp_eq fun j _ => w1 _).trans hsp1
  have hL2 : StL S b N nb r2.1 f := by
    refine ⟨h.no.eq hsp2, fun j hj x hx => ?_, fun k hk j hj x hx => ?_, fun k hk => (hL1.home k hk).eq fun j _ => w1 _⟩
    · rw [w1]
      rcases w2 (S + j) with e | ⟨e1, e2, e3⟩
      · rw [e] at hx; exact hL1.spare j hj x hx
      · rw [e3, secs5_at nb (by omega), show S + j - S = j by omega] at hx
        cases hx
        exact Or.inr rfl
    · rw [w1]
      rcases w2 (b + 4 * k + j) with e | ⟨e1, e2, -⟩
      · rw [e] at hx; exact hL1.quiet k hk j hj x hx
      · omega
  have hN3 := (op_sync (A := Has S b N) hN2).ro.near hN2
  have q3 : ∀ {k}, k < n → QS r2.1 k → (Dk.sync r2.1).2 = 0 → lv (Dk.sync r2.1).1 k = lv r2.1 k ∧ wv (Dk.sync r2.1).1 k = none := fun hk hq h0 => sync_quiet hN2 h0 hk hq
  obtain ⟨s1, s2⟩ := sync_eff hN2
  by_cases h2 : r2.2 = 0
  case neg =>
    rw [bnd_stop Dk.sync h2, bnd_stop _ h2]
    exact ⟨fun e => absurd e h2, fun _ => hcrash hN2 hsp2 hL2⟩
  rw [bnd_go Dk.sync h2]
  have hw := w3 h2
  generalize Dk.sync r2.1 = r3 at *
  by_cases h3 : r3.2 = 0
  case neg =>
    rw [bnd_stop _ h3]
    have e := s2 h3
    refine ⟨fun e => absurd e h3, fun _ => hcrash hN3 ((sp_eq fun j _ => (e _).1).trans hsp2) ⟨h.no.eq ((sp_eq fun j _ => (e _).1).trans hsp2), fun j hj x hx => ?_, fun k hk j hj x hx => ?_, fun k hk => (hL2.home k hk).eq fun j _ => (e _).1⟩⟩
    · rw [(e _).2] at hx; rw [(e _).1]; exact hL2.spare j hj x hx
    · rw [(e _).2] at hx; rw [(e _).1]; exact hL2.quiet k hk j hj x hx
  rw [bnd_go _ h3]
  have e3 := s1 h3
  have hsp3 : sp r3.1 S = nb := sp_whole hlay fun j hj => by
    rw [(e3 (S + j) (by omega)).1, hw, if_pos (by omega), secs5_at nb (by omega), show S + j - S = j by omega]
    rfl
  have hZ : ∀ i, Has S b N i → wv r3.1 i = none := fun i hi => (e3 i (hL.has hi)).2
  have hW : StW S b N m y r3.1 f := ⟨by rw [hsp3]; exact hwl, fun j hj x hx => (by rw [hZ _ (spare_has hj)] at hx; cases hx), fun k hk _ j hj x hx => (by rw [hZ _ (home_has hk hj)] at hx; cases hx), fun k hk _ => (hL2.home k hk).eq fun j hj => (q3 (by omega) (hL2.quiet k hk j hj) h3).1⟩
  obtain ⟨g1, g2⟩ := settle_safe hN3 hL hW hf hy hm
  refine ⟨g1, fun h0 ps => (g2 h0 ps).mono fun k x hx => ?_⟩
  unfold Po.upd at hx
  by_cases e : k = m
  · rw [if_pos e] at hx; exact Or.inr ⟨e, hx⟩
  · rw [if_neg e] at hx; exact Or.inl hx
def spv (d : Dk.Dev) (S : Nat) : List Nat := Dk.sv d S ++ (Dk.sv d (S + 1) ++ (Dk.sv d (S + 2) ++ (Dk.sv d (S + 3) ++ Dk.sv d (S + 4))))
theorem spv_quiet (h : ∀ j, j < 5 → QS d (S + j)) : spv d S = sp d S := by
  have h0 := h 0 (by decide)
  rw [Nat.add_zero] at h0
  unfold spv sp
  rw [sv_quiet h0, sv_quiet (h 1 (by decide)), sv_quiet (h 2 (by decide)), sv_quiet (h 3 (by decide)), sv_quiet (h 4 (by decide))]
noncomputable def mendR (d : Dk.Dev) (S b N : Nat) : Dk.Dev × Nat :=
  Lr.ifP (d.off = true) (d, 6) (Lr.ifP (Told (spv d S) ∧ Pg.openE (cut (spv d S)) = 0 ∧ pageOf (spv d S) < N) (settleR d S (b + 4 * pageOf (spv d S)) (Pg.form (Pg.openN (cut (spv d S))) (Pg.openL (cut (spv d S))))) (d, 0))
theorem mend_off (h : d.off = true) : mendR d S b N = (d, 6) := if_pos h
theorem mend_no (ho : d.off = false) (h : ¬ (Told (spv d S) ∧ Pg.openE (cut (spv d S)) = 0 ∧ pageOf (spv d S) < N)) : mendR d S b N = (d, 0) := by
  unfold mendR Lr.ifP
  rw [if_neg (by rw [ho]; decide), if_neg h]
theorem mend_yes (ho : d.off = false) (h : Told (spv d S) ∧ Pg.openE (cut (spv d S)) = 0 ∧ pageOf (spv d S) < N) : mendR d S b N = settleR d S (b + 4 * pageOf (spv d S)) (Pg.form (Pg.openN (cut (spv d S))) (Pg.openL (cut (spv d S)))) := by
  unfold mendR Lr.ifP
  rw [if_neg (by rw [ho]; decide), if_pos h]
theorem mend_calm (ho : d.off = false) (h : HwN S b N d f) : mendR d S b N = (d, 0) := by
  refine mend_no ho fun hh => ?_
  rw [spv_quiet fun j hj => h.quiet (spare_has hj)] at hh
  exact h.no _ _ ⟨hh.1, rfl, hh.2.1, rfl⟩ hh.2.2
theorem home_ok (hN : Wl.Near n d) {p : Nat} (hp : p + 4 ≤ n) {x : Po.Pg} (h : Home d p x) : Po.PgOk x := by
  have hb : ∀ z ∈ hm d p, z < 256 := fun z hz => by
    have hs : ∀ i, i < n → ∀ z ∈ lv d i, z < 256 := fun i hi => by
      have hi2 : i < d.lasts.length := by have := hN.sz; unfold Dk.size at this; omega
      unfold lv
      rw [List.getD_eq_getElem?_getD, List.getElem?_eq_getElem hi2, Option.getD_some]
      exact (hN.ok.l1 _ (List.getElem_mem _)).2
    unfold hm at hz
    rcases List.mem_append.1 hz with h1 | hz
    · exact hs _ (by omega) z h1
    rcases List.mem_append.1 hz with h1 | hz
    · exact hs _ (by omega) z h1
    rcases List.mem_append.1 hz with h1 | h1
    · exact hs _ (by omega) z h1
    · exact hs _ (by omega) z h1
  rw [h.2]
  refine ⟨?_, openL_len h.1, Pg.openL_lt hb⟩
  show Pg.openN _ < _
  unfold Pg.openN
  rw [if_pos h.1]
  have hx := Cod.num_lt ((List.drop 4 (hm d p)).take 8) fun z hz => hb z (List.mem_of_mem_drop (List.mem_of_mem_take hz))
  have hl : ((List.drop 4 (hm d p)).take 8).length ≤ 8 := List.length_take_le _ _
  have : (256 : Nat) ^ ((List.drop 4 (hm d p)).take 8).length ≤ 256 ^ 8 := Nat.pow_le_pow_right (by decide) hl
  have e8 : (256 : Nat) ^ 8 = 18446744073709551616 := by decide
  omega
theorem HwN.crash (hN : Wl.Near n d) (hL : Lies n S b N) (h : HwN S b N d f) (ps : List Nat) : HpN S b N (Dk.crash d ps) fun k x => x = f k := by
  have hB := hL.base
  have hS := hL.spare
  refine ⟨crash_idle hN hL ps, fun k => if k < N then f k else Po.blank, fun k => ?_, fun k hk => (show (if k < N then f k else Po.blank) = f k from if_pos hk), Or.inl ⟨h.no.eq (sp_eq fun j hj => crash_quiet hN ps (by omega) (h.quiet (spare_has hj))), fun k hk => ?_⟩⟩
  · dsimp only
    split
    · next hk => exact home_ok hN (by omega) (h.home k hk)
    · exact ⟨by show (0 : Nat) < _; decide, Pg.zeros_length 500, Pg.zeros_lt 500⟩
  · show Home _ _ (if k < N then f k else Po.blank)
    rw [if_pos hk]
    exact (h.home k hk).eq fun j hj => crash_quiet hN ps (by omega) (h.quiet (home_has hk hj))
theorem HwN.same {e : Dk.Dev} (h : HwN S b N d f) (hw : ∀ i, Has S b N i → wv e i = none) (hl : ∀ i, Has S b N i → lv e i = lv d i) : HwN S b N e f :=
  ⟨hw, h.no.eq (sp_eq fun j hj => hl _ (spare_has hj)), fun k hk => (h.home k hk).eq fun j hj => hl _ (home_has hk hj)⟩
theorem hwn_blank (hw : ∀ i, Has S b N i → wv d i = none) (hl : ∀ i, Has S b N i → lv d i = Dk.blank) : HwN S b N d fun _ => Po.blank := by
  refine ⟨hw, fun k x hh _ => ?_, fun k hk => ?_⟩
  · have h0 := (told_first hh.1).1
    have h1 := hl _ (spare_has (S := S) (b := b) (N := N) (j := 0) (by decide))
    rw [Nat.add_zero] at h1
    unfold sp at h0
    rw [h1] at h0
    exact absurd h0 (by show ¬ (0 : Nat) = 112; decide)
  · have e : hm d (b + 4 * k) = Pg.zeros 512 := by
      have h0 := hl _ (home_has (S := S) (b := b) hk (show 0 < 4 by decide))
      rw [Nat.add_zero] at h0
      unfold hm
      rw [h0, hl _ (home_has hk (show 1 < 4 by decide)), hl _ (home_has hk (show 2 < 4 by decide)), hl _ (home_has hk (show 3 < 4 by decide))]
      unfold Dk.blank Pg.zeros
      rw [List.replicate_append_replicate, List.replicate_append_replicate, List.replicate_append_replicate]
    unfold Home
    rw [e, Pg.openE_zeros, Pg.openN_zeros, Pg.openL_zeros]
    exact ⟨rfl, rfl⟩
end
theorem dv_put {s : Wl.S} {said : Nat} {d : Dk.Dev} (h : Wl.Dv s said d) {i : Nat} {b : List Nat} (hi : i < Dk.size d) (hb : Dk.Sec b) (ha : i < s.at_ ∨ s.at_ + s.count + 2 ≤ i) : Wl.Dv s said (Dk.put d i b) := by
  have hf := h.fits
  have hl : i < d.waits.length := by rw [h.ok.w]; exact hi
  refine ⟨Dk.ok_put h.ok _ hb, h.fits, h.hl, fun k c hk hw => ?_, h.sl, fun k c hk hw => ?_⟩
  · rw [Wl.waits_put hl, if_neg (by omega)] at hw
    exact h.hw k c hk hw
  · rw [Wl.waits_put hl, if_neg (by omega)] at hw
    exact h.sw k c hk hw
theorem Ro.dv {A : Nat → Prop} {n : Nat} {d e : Dk.Dev} {s : Wl.S} {said : Nat} (h : Ro A n d e) (hN : Wl.Near n d) (hD : Wl.Dv s said d) (hA : ∀ i, A i → i < s.at_ ∨ s.at_ + s.count + 2 ≤ i) : Wl.Dv s said e := by
  induction h with
  | refl => exact hD
  | @write e i b h1 hA1 hi hb ih =>
    have hNe := h1.near hN
    cases ho : e.off with
    | true => rw [near_off ho]; exact ih
    | false =>
      rw [(Wl.near_write hNe ho hi hb).1]
      exact (dv_put ih (by rw [hNe.sz]; exact hi) hb (hA i hA1)).goes
  | @sync e h1 ih =>
    have hNe := h1.near hN
    cases ho : e.off with
    | true => rw [sync_off ho]; exact ih
    | false =>
      rcases Wl.near_sync hNe ho with ⟨e1, -, -⟩ | ⟨e1, -, -⟩
      · rw [e1]; exact ih.goes
      · rw [e1]; exact ih.goes.last
end Go.Proofs.YtbpodmallknhfaaGreat.Rg
namespace Go.Proofs.YtbpodmallknhfaaGreat
open Go.RowKit
theorem wlRead_off {B m1 m2 : Nat} {d : Dk.Dev} {w : World} (h : PDev w B m1 m2 d) (ho : d.off = true) (i : Int) :
    Calls Tryz.prog 97 #[.pointer (some ⟨B, 0, none⟩), .int .i64 i] w fun e w' => ∃ u, e = .returned (.tuple #[u, .int .i64 6]) ∧ Below w.heap.size w w' := by
  have h1 := read_any h i
  rw [show Dk.read d i = ([], 6) from if_pos ho] at h1
  exact h1.mono fun _ _ ⟨u, he, _, hb⟩ => ⟨u, he, hb⟩
set_option maxHeartbeats 3200000 in
set_option maxRecDepth 20000 in
theorem wlPut_off {w : World} {L B a c m1 m2 : Nat} {k : Wl.Kn} {pl wa : Value} {d : Dk.Dev} (h : LogAt w L k B a c pl wa false) (hP : PDev w B m1 m2 d) (ho : d.off = true) (hc1 : 1 ≤ c) (hc2 : c ≤ 8192) (ha : a ≤ 65536) (g last : Nat) (hLd : ¬ DS B m1 m2 L) :
    Calls Tryz.prog 147 #[.pointer (some ⟨L, 0, none⟩), .int .u64 (g : Int), .int .u64 (last : Int)] w fun e w' => e = .returned (.int .i64 6) ∧ PDev w' B m1 m2 d ∧ Touch (PutS B m1 m2 L) w w' := by
  have HLG0 := Lib.hid h
  have HSEC := Lib.hid (wlSector_any h g hc1 hc2 ha)
  obtain ⟨σ, hσ⟩ : ∃ s, s = a + 2 + g % (2 * c) / 2 := ⟨_, rfl⟩
  rw [← hσ] at HSEC
  have HPD0 := Lib.hid hP
  have HOF := Lib.hid ho
  have HLD := Lib.hid hLd
  clear h hP ho hc1 hc2 ha hLd hσ
  go_enter Tryz.func147, Tryz.ntmps147
  go_wp2_with fail
  refine HSEC.out.mono ?_
  rintro e w1 ⟨rfl, q, rfl⟩
  have hb1 := below_drewN w.heap.size w q
  have HLG := Lib.hid (HLG0.out.below hb1)
  have HPD := Lib.hid (HPD0.out.below hb1)
  have HT1 : Hid (Touch (PutS B m1 m2 L) w (w.drewN q)) := (Touch.refl _ _).drewN q
  clear HSEC hb1
  generalize w.drewN q = W1 at *
  have c4 := HLG.out.cell 4 (v := .pointer (some ⟨B, 0, none⟩)) rfl
  go_wp2_with fail
  refine (wlRead_off HPD.out HOF.out _).mono ?_
  rintro e w2 ⟨u, rfl, hb2⟩
  have HLG2 := Lib.hid (HLG.out.below hb2)
  have HPD2 := Lib.hid (HPD.out.below hb2)
  have HT2 := Lib.hid (HT1.out.trans (Touch.of_new hb2))
  clear hb2 c4
  go_wp2_with fail
  refine (wlTold_any HLG2.out 6).mono ?_
  rintro e w8 ⟨rfl, hL8, ht8⟩
  have HE := Lib.hid (HT2.out.trans (ht8.mono fun i _ hi => Or.inr hi))
  have HP8 := Lib.hid (HPD2.out.keep ht8 (fun i hi e => HLD.out (e ▸ hi)))
  clear hL8 ht8
  go_wp2_with fail
  go_ret
  exact ⟨rfl, HP8.out, HE.out⟩
def WrA (s : Wl.S) (said n B m1 m2 L : Nat) (pl wa : Value) (d : Dk.Dev) (w : World) (e : Ending) (w' : World) : Prop :=
  (∃ d', e = .returned (.int .i64 0) ∧ PDev w' B m1 m2 d' ∧ Wl.Dv (Wl.flush s) said d' ∧ Wl.Oth s.at_ s.count d d' ∧ Wl.Near n d' ∧ (Wl.Calm n d → Wl.Calm n d') ∧ LogAt w' L (Wl.kn s) B s.at_ s.count pl wa false ∧ Touch (PutS B m1 m2 L) w w') ∨
  (¬ Wl.Calm n d ∧ ∃ (k : Nat) (d' : Dk.Dev), e = .returned (.int .i64 (k : Int)) ∧ k = 6 ∧ PDev w' B m1 m2 d' ∧ Wl.Oth s.at_ s.count d d' ∧ Wl.Near n d' ∧ Wl.Dv s said d' ∧ Touch (PutS B m1 m2 L) w w')
set_option maxHeartbeats 6400000 in
set_option maxRecDepth 20000 in
theorem wlWrite_any {w : World} {L B m1 m2 said n : Nat} {s : Wl.S} {pl : Value} {gw ow cw : Nat} {d : Dk.Dev} (h : LogAt w L (Wl.kn s) B s.at_ s.count pl (.slice (some ⟨gw, ow, none⟩) (Wl.waits s).length cw) false) (hP : PDev w B m1 m2 d) (hB : Bts w (.slice (some ⟨gw, ow, none⟩) (Wl.waits s).length cw) (Wl.waits s))
    (hx : Wl.Ex s) (hD : Wl.Dv s said d) (hN : Wl.Near n d) (hfs : s.flushed < s.stop) (hs : s.stop ≤ 1000000000000) (hLd : ¬ DS B m1 m2 L) (hWd : ¬ PutS B m1 m2 L gw) :
    Calls Tryz.prog 107 #[.pointer (some ⟨L, 0, none⟩)] w fun e w' => WrA s said n B m1 m2 L pl (.slice (some ⟨gw, ow, none⟩) (Wl.waits s).length cw) d w e w' := by
  have hwl := Wl.waits_length hx.good
  have hend := wlEnd_any h (by show s.flushed + _ < _; rw [hwl]; omega)
  rw [show (Wl.kn s).flushed + (Wl.waits s).length = s.stop by show s.flushed + _ = _; rw [hwl]; omega] at hend
  have HEND := Lib.hid hend
  have HLG0 := Lib.hid h
  have HPD0 := Lib.hid hP
  have HBW0 := Lib.hid hB
  have HX := Lib.hid hx
  have HDV := Lib.hid hD
  have HN := Lib.hid hN
  have HFS := Lib.hid hfs
  have HS := Lib.hid hs
  have HLD := Lib.hid hLd
  have HWD := Lib.hid hWd
  obtain ⟨last, hlast⟩ : ∃ l, l = Wl.lastH s := ⟨_, rfl⟩
  have HLAST := Lib.hid hlast
  obtain ⟨z1, hz1⟩ : ∃ z, z = s.stop - 1 := ⟨_, rfl⟩
  have hm1 : IntKind.u64.wrap ((s.stop : Int) - 1) = (z1 : Int) := by rw [IntWalk.u64_in _ (by omega)]; omega
  have hm2 : IntKind.u64.wrap ((z1 : Int) / 52) = (last : Int) := by unfold Wl.lastH at hlast; rw [IntWalk.u64_in _ (by omega)]; omega
  obtain ⟨g0, hg0⟩ : ∃ g, g = s.flushed / 52 := ⟨_, rfl⟩
  have hm3 : IntKind.u64.wrap ((s.flushed : Int) / 52) = (g0 : Int) := by rw [IntWalk.u64_in _ (by omega)]; omega
  have HG0 := Lib.hid hg0
  have HLL : Hid (last ≤ 1000000000000) := by unfold Wl.lastH at hlast; show _ ≤ _; omega
  have HG0L : Hid (g0 ≤ 1000000000000) := by show _ ≤ _; omega
  clear h hP hB hx hD hN hfs hs hLd hWd hwl hend hlast hg0 hz1
  go_enter Tryz.func107, Tryz.ntmps107
  go_wp2_with fail
  refine HEND.out.mono ?_
  rintro e w1 ⟨rfl, q, rfl⟩
  have hb1 := below_drewN w.heap.size w q
  have HLG := Lib.hid (HLG0.out.below hb1)
  have HPD := Lib.hid (HPD0.out.below hb1)
  have HBW := Lib.hid (HBW0.out.below hb1)
  have HT1 : Hid (Touch (PutS B m1 m2 L) w (w.drewN q)) := (Touch.refl _ _).drewN q
  clear HEND hb1
  generalize w.drewN q = W1 at *
  have c1 := HLG.out.cell 1 (v := .int .u64 (s.flushed : Int)) rfl
  go_wp2_with fail
  clear c1
  go_loopw [4] (fun i wr => ∃ (t : Nat) (d1 : Dk.Dev), i = .int .u64 (t : Int) ∧ g0 ≤ t ∧ t ≤ last + 2 + g0 ∧ Wl.Wr s said d1 t ∧ Wl.Oth s.at_ s.count d d1 ∧ Wl.Near n d1 ∧ (Wl.Calm n d → Wl.Calm n d1) ∧ PDev wr B m1 m2 d1 ∧ LogAt wr L (Wl.kn s) B s.at_ s.count pl (.slice (some ⟨gw, ow, none⟩) (Wl.waits s).length cw) false ∧ Touch (PutS B m1 m2 L) w wr) (fun i _ => (last + 1) - (intOf i).toNat)
  case atStart => exact ⟨g0, d, rfl, Nat.le_refl _, by omega, by rw [HG0.out]; exact Wl.wr_start HDV.out, Wl.Oth.refl _ _ _, HN.out, id, HPD.out, HLG.out, HT1.out⟩
  case round =>
    obtain ⟨t, d1, rfl, ht1, ht2, hwr, hot, hn1, hcm, hp1, hl1, htt⟩ := hrel
    have HOT := Lib.hid hot
    have HWR := Lib.hid hwr
    have HN1 := Lib.hid hn1
    have HCM := Lib.hid hcm
    have HP1 := Lib.hid hp1
    have HL1 := Lib.hid hl1
    have HTT := Lib.hid htt
    have HT12 : Hid (g0 ≤ t ∧ t ≤ last + 2 + g0) := ⟨ht1, ht2⟩
    clear hwr hot hn1 hcm hp1 hl1 htt ht1 ht2
    by_cases hlt : t ≤ last
    · have hi : (t : Int) ≤ (last : Int) := by omega
      have HLT := Lib.hid hlt
      have HIN : Hid (Wl.WrIn s t) := ⟨by have h1 := HT12.out; have h2 := HG0.out; omega, by have h1 := HLAST.out; omega⟩
      have hfit := HWR.out.dv.fits
      have hcl := HX.out.low
      have hch := HX.out.high
      have hszd := HP1.out.own.size
      cases hof : d1.off with
      | true =>
        have hput := wlPut_off HL1.out HP1.out hof (by omega) hch (by omega) t last HLD.out
        have HPUT := Lib.hid hput
        have HOF := Lib.hid hof
        clear hput hof hfit hcl hch hszd hlt
        go_wp2_with fail
        refine HPUT.out.mono ?_
        rintro e w2 ⟨rfl, hP2, ht2⟩
        have HP2 := Lib.hid hP2
        have HT2 := Lib.hid (HTT.out.trans ht2)
        clear hP2 ht2 HPUT
        go_wp2_with fail
        go_ret
        exact Or.inr ⟨(fun hc => by have := (HCM.out hc).off; rw [HOF.out] at this; cases this), 6, d1, rfl, rfl, HP2.out, HOT.out, HN1.out, HWR.out.dv, HT2.out⟩
      | false =>
        have hbt := HTT.out.bts HBW0.out (fun _ g' e => by
          simp only [Value.ownBlock, Option.some.injEq] at e
          subst e
          exact HWD.out)
        have hput := wlPut_any HL1.out HP1.out hbt hof (by omega) hch (by omega) t last hlt HLL.out (fun i h1 h2 => (⟨Nat.le_trans HIN.out.low h1, by have := HLAST.out; omega⟩ : Wl.WrIn s i).ok HX.out HFS.out HS.out) HLD.out (by show s.flushed ≤ _; have := HFS.out; have := HS.out; omega)
        have HPUT := Lib.hid hput
        have HOF := Lib.hid hof
        have hσ : s.at_ + 2 + t % (2 * s.count) / 2 < n := by
          have h1 := Wl.sec_lt (n := s.count) (h := t) (by omega)
          have h2 := HN1.out.sz
          omega
        have HSG := Lib.hid hσ
        have hm5 : IntKind.u64.wrap ((t : Int) / 2) = ((t / 2 : Nat) : Int) := by rw [IntWalk.u64_in _ (by have := HLL.out; omega)]; omega
        obtain ⟨t2, ht2⟩ : ∃ n, n = t / 2 := ⟨_, rfl⟩
        rw [← ht2] at hm5
        obtain ⟨t4, ht4⟩ : ∃ n, n = t2 * 2 := ⟨_, rfl⟩
        have hm6 : IntKind.u64.wrap ((t2 : Int) * 2) = (t4 : Int) := by have := HLL.out; rw [IntWalk.u64_in _ (by omega)]; omega
        obtain ⟨t5, ht5⟩ : ∃ n, n = t4 + 2 := ⟨_, rfl⟩
        have hm7 : IntKind.u64.wrap ((t4 : Int) + 2) = (t5 : Int) := by have := HLL.out; rw [IntWalk.u64_in _ (by omega)]; omega
        have HT5 : Hid (t5 = t / 2 * 2 + 2) := by show _ = _; omega
        clear hput hof hfit hcl hch hszd hlt hbt hσ ht2 ht4 ht5
        go_wp2_with fail
        refine HPUT.out.mono ?_
        rintro e w2 ⟨b', hsn, he, hP2, hL2, ht2⟩
        rw [show (Wl.kn s).flushed = s.flushed from rfl, show (Wl.kn s).epoch = s.epoch from rfl, HLAST.out] at hsn
        obtain ⟨hw1, hw2⟩ := Wl.near_write HN1.out HOF.out HSG.out hsn.sec
        rw [hw1] at he hP2 hL2
        have hwr2 := (HWR.out.put HX.out HFS.out HS.out HIN.out hsn).goes
        have hcc := fun hc => Wl.calm_put (HCM.out hc) (s.at_ + 2 + t % (2 * s.count) / 2) b'
        have hot2 := (HOT.out.put (i := s.at_ + 2 + t % (2 * s.count) / 2) ⟨by omega, by have := Wl.sec_lt (n := s.count) (h := t) (by have := HX.out.low; omega); omega⟩ b').goes
        generalize Dk.goes (Dk.put d1 (s.at_ + 2 + t % (2 * s.count) / 2) b') = d2 at *
        dsimp only at he hP2 hL2
        have HT2 := Lib.hid (HTT.out.trans ht2)
        have HP2 := Lib.hid hP2
        have HW2 := Lib.hid hw2
        have HWR2 := Lib.hid hwr2
        have HCC := Lib.hid hcc
        have HOT2 := Lib.hid hot2
        have HL2 := Lib.hid hL2
        subst he
        clear hP2 ht2 HPUT hsn hw1 hw2 hwr2 hcc hL2 hot2
        cases hof2 : d2.off with
        | true =>
          rw [hof2] at HL2
          have HOF2 := Lib.hid hof2
          clear hof2
          go_wp2_with fail
          go_ret
          exact Or.inr ⟨(fun hc => by have := (HCC.out hc).off; rw [HOF2.out] at this; cases this), 6, d2, rfl, rfl, HP2.out, HOT2.out, HW2.out, HWR2.out.dv, HT2.out⟩
        | false =>
          rw [hof2] at HL2
          have HL3 : Hid (LogAt w2 L (Wl.kn s) B s.at_ s.count pl (.slice (some ⟨gw, ow, none⟩) (Wl.waits s).length cw) false) := HL2.out
          clear HL2 hof2
          go_wp2_with fail
          go_roundw
          case rel => exact ⟨t5, d2, by go_num, by have h1 := HT12.out; have h2 := HT5.out; omega, by have h1 := HT12.out; have h2 := HT5.out; have h3 := HLT.out; omega, by rw [HT5.out]; exact HWR2.out, HOT2.out, HW2.out, HCC.out, HP2.out, HL3.out, HT2.out⟩
          case measure => simp [intOf]; have h1 := HLT.out; have h2 := HT5.out; omega
    · have hi : ¬ (t : Int) ≤ (last : Int) := by omega
      have hwd := HWR.out
      have HLT : Hid (Wl.lastH s < t) := by show _ < _; rw [← HLAST.out]; omega
      have c4 := HL1.out.cell 4 (v := .pointer (some ⟨B, 0, none⟩)) rfl
      have hsy := sync_any HP1.out
      cases hof : d1.off with
      | true =>
        rw [show Dk.sync d1 = (d1, 6) from if_pos hof] at hsy
        have HSY := Lib.hid hsy
        have HOF := Lib.hid hof
        clear hsy hof hlt hwd
        go_wp2_with fail
        refine HSY.out.mono ?_
        rintro e w2 ⟨rfl, hP2, ht2⟩
        have HP2 := Lib.hid hP2
        have HL2 := Lib.hid (HL1.out.touch ht2 HLD.out)
        have HT2 := Lib.hid (HTT.out.trans (ht2.mono fun i _ hi => Or.inl hi))
        clear hP2 ht2 HSY c4
        go_wp2_with fail
        refine (wlTold_any HL2.out 6).mono ?_
        rintro e w3 ⟨rfl, hL3, ht3⟩
        have HP3 := Lib.hid (HP2.out.keep ht3 (fun i hi e => HLD.out (e ▸ hi)))
        have HT3 := Lib.hid (HT2.out.trans (ht3.mono fun i _ hi => Or.inr hi))
        clear hL3 ht3
        go_wp2_with fail
        go_ret
        exact Or.inr ⟨(fun hc => by have := (HCM.out hc).off; rw [HOF.out] at this; cases this), 6, d1, rfl, rfl, HP3.out, HOT.out, HN1.out, HWR.out.dv, HT3.out⟩
      | false =>
        rcases Wl.near_sync HN1.out hof with ⟨hs1, hs2, hs3⟩ | ⟨hs1, hs2, hs3⟩
        · rw [hs1] at hsy
          have HSY := Lib.hid hsy
          have HS2 := Lib.hid hs2
          have HS3 := Lib.hid hs3
          clear hsy hof hlt hwd hs1 hs2 hs3
          go_wp2_with fail
          refine HSY.out.mono ?_
          rintro e w2 ⟨rfl, hP2, ht2⟩
          have HP2 := Lib.hid hP2
          have HL2 := Lib.hid (HL1.out.touch ht2 HLD.out)
          have HT2 := Lib.hid (HTT.out.trans (ht2.mono fun i _ hi => Or.inl hi))
          clear hP2 ht2 HSY c4
          go_wp2_with fail
          refine (wlTold_any HL2.out 6).mono ?_
          rintro e w3 ⟨rfl, hL3, ht3⟩
          have HP3 := Lib.hid (HP2.out.keep ht3 (fun i hi e => HLD.out (e ▸ hi)))
          have HT3 := Lib.hid (HT2.out.trans (ht3.mono fun i _ hi => Or.inr hi))
          clear hL3 ht3
          go_wp2_with fail
          go_ret
          exact Or.inr ⟨fun hc => HS3.out (HCM.out hc), 6, _, rfl, rfl, HP3.out, HOT.out.goes, HS2.out, HWR.out.goes.dv, HT3.out⟩
        · rw [hs1] at hsy
          have HSY := Lib.hid hsy
          have HS2 := Lib.hid hs2
          have HS3 := Lib.hid hs3
          clear hsy hof hlt hwd hs1 hs2 hs3
          go_wp2_with fail
          refine HSY.out.mono ?_
          rintro e w2 ⟨rfl, hP2, ht2⟩
          have HP2 := Lib.hid hP2
          have HL2 := Lib.hid (HL1.out.touch ht2 HLD.out)
          have HT2 := Lib.hid (HTT.out.trans (ht2.mono fun i _ hi => Or.inl hi))
          clear hP2 ht2 HSY c4
          go_wp2_with fail
          refine (wlTold_ok HL2.out).mono ?_
          rintro e w3 ⟨rfl, hL3, ht3⟩
          have HL3 := Lib.hid hL3
          have HP3 := Lib.hid (HP2.out.keep ht3 (fun i hi e => HLD.out (e ▸ hi)))
          have HT3 := Lib.hid (HT2.out.trans (ht3.mono fun i _ hi => Or.inr hi))
          clear hL3 ht3
          go_wp2_with fail
          go_ret
          exact Or.inl ⟨_, rfl, HP3.out, HWR.out.goes.done HX.out HFS.out HLT.out, HOT.out.goes.last (Dk.ok_goes HN1.out.ok), HS2.out, fun hc => HS3.out (HCM.out hc), HL3.out, HT3.out⟩
end Go.Proofs.YtbpodmallknhfaaGreat
namespace Go.Proofs.YtbpodmallknhfaaGreat
open Go.RowKit
theorem wl_waits_flush (s : Wl.S) (h : Wl.Good s) : Wl.waits (Wl.flush s) = [] := by
  have h1 := Wl.bytes_length h
  show (Wl.bytes s).drop (s.stop - s.start) = []
  exact List.drop_eq_nil_of_le (by omega)
theorem wl_flush_same : ∀ s : Wl.S, s.flushed = s.stop → Wl.flush s = s
  | ⟨_, _, _, _, _, _, _, _⟩, h => by
    cases (show _ = _ from h)
    rfl
def FlB (U V : Nat → Prop) (n B L : Nat) (d : Dk.Dev) (s : Wl.S) (w : World) (e : Ending) (w' : World) : Prop :=
    (∃ U' V' d', e = .returned (.int .i64 0) ∧ WlPL U' V' w' B L d' (Wl.flush s) ∧ Wl.Oth s.at_ s.count d d' ∧ Wl.Near n d' ∧ (Wl.Calm n d → Wl.Calm n d') ∧ Touch (Both U V) w w' ∧ Grew U U' w ∧ Grew V V' w) ∨
    (¬ Wl.Calm n d ∧ ∃ k : Nat, ∃ U' d', e = .returned (.int .i64 (k : Int)) ∧ k = 6 ∧ WlPD U' w' B d' ∧ Wl.Oth s.at_ s.count d d' ∧ Wl.Near n d' ∧ (∀ ps, Wl.Hd (Dk.crash d' ps) s) ∧ Touch (Both U V) w w' ∧ Grew U U' w)
set_option maxHeartbeats 3200000 in
set_option maxRecDepth 20000 in
theorem wl_flush_oth {U V : Nat → Prop} {w : World} {B L : Nat} {d : Dk.Dev} {n : Nat} {s : Wl.S} (h : WlPL U V w B L d s) (hN : Wl.Near n d) (hs : s.stop ≤ 1000000000000) :
    Calls Tryz.prog 78 #[.pointer (some ⟨L, 0, none⟩)] w fun e w' => FlB U V n B L d s w e w' := by
  have HPL := Lib.hid h
  obtain ⟨m1, m2, pl, wa, hm, rfl, hp, rfl, haw, said, hsd, hd⟩ := h
  have HSD := Lib.hid hsd
  have hrd := wlReady_any hm.log
  obtain ⟨p, cap, rfl⟩ := wa_slice hm.owa
  have c8 := hm.log.cell 8 (v := .slice p (Wl.waits s).length cap) rfl
  have hwl := Wl.waits_length hm.ex.good
  have HM := Lib.hid hm
  have HN := Lib.hid hN
  have HS := Lib.hid hs
  by_cases h0 : (Wl.waits s).length = 0
  · have hfl : Wl.flush s = s := by
      have h2 := hm.ex.good.high
      have : s.flushed = s.stop := by omega
      exact wl_flush_same s this
    have HFL := Lib.hid hfl
    rw [h0] at c8
    clear hm hp haw hd hwl hN hs hfl
    go_enter Tryz.func78, Tryz.ntmps78
    go_wp2_with (go_at_call 55; refine hrd.mono ?_; rintro e w' ⟨rfl, rfl⟩)
    go_ret
    exact Or.inl ⟨_, _, d, rfl, by rw [HFL.out]; exact HPL.out, Wl.Oth.refl _ _ _, HN.out, id, .refl _ _, fun i hi => Or.inl hi, fun i hi => Or.inl hi⟩
  · have h0i : ¬ ((Wl.waits s).length : Int) = 0 := by omega
    have h0b : (((Wl.waits s).length : Int) == 0) = false := by rw [beq_eq_false_iff_ne]; exact h0i
    rcases hm.owa.form with ⟨-, e0⟩ | ⟨gw, cw, hv, -, hc1, hc2, -⟩
    · rw [e0] at h0; exact absurd rfl h0
    simp only [Value.slice.injEq, true_and] at hv
    obtain ⟨rfl, rfl⟩ := hv
    have hLd : ¬ DS B m1 m2 L := fun h => haw L h (Or.inl rfl)
    have hWd : ¬ PutS B m1 m2 L gw := fun h => by
      rcases h with h | h
      · exact haw gw h (Or.inr (Or.inr rfl))
      · exact hm.nwa (by rw [← h]; rfl)
    have hwr := wlWrite_any hm.log hp hm.owa.bts hm.ex hd hN (by have := hm.ex.good.high; omega) hs hLd hWd
    have HWR := Lib.hid hwr
    have HLD := Lib.hid hLd
    have HAW := Lib.hid haw
    clear hm hp haw hd hwl hN hs hwr hLd hWd
    go_enter Tryz.func78, Tryz.ntmps78
    go_upto_region 6 with (go_at_call 55; refine hrd.mono ?_; rintro e w' ⟨rfl, rfl⟩)
    clear c8 hrd
    go_wp2_with fail
    refine HWR.out.mono ?_
    rintro e w1 (⟨d', rfl, hP1, hD1, hO1, hN1, hC1, hL1, ht1⟩ | ⟨hnc, k, d', rfl, hk, hP1, hO1, hN1, hD1, ht1⟩)
    · have hend := wlEnd_any hL1 (by show s.flushed + _ < _; rw [HM.out.end_]; have := HS.out; omega)
      rw [show (Wl.kn s).flushed + (Wl.waits s).length = s.stop from HM.out.end_] at hend
      have HEND := Lib.hid hend
      have HL1 := Lib.hid hL1
      have HP1 := Lib.hid hP1
      have HD1 := Lib.hid hD1
      have HN1 := Lib.hid hN1
      have HC1 := Lib.hid hC1
      have HO1 := Lib.hid hO1
      have HT1 := Lib.hid ht1
      clear hend hL1 hP1 hD1 hN1 hC1 hO1 ht1 HWR
      go_wp2_with fail
      refine HEND.out.mono ?_
      rintro e w2 ⟨rfl, q, rfl⟩
      have HL2 : Hid (LogAt (w1.drewN q) L (Wl.kn s) B s.at_ s.count pl (.slice (some ⟨gw, 0, none⟩) (Wl.waits s).length cap) false) := HL1.out
      have HP2 := Lib.hid (HP1.out.below (below_drewN _ _ q))
      have HT2 : Hid (Touch (PutS B m1 m2 L) w (w1.drewN q)) := HT1.out.drewN q
      clear HEND
      generalize w1.drewN q = w2 at *
      have f1 := blk_free HL2.out 1
      have s1 : LogAt (w2.setCell ⟨L, 1, none⟩ (.int .u64 (s.stop : Int))) L (Wl.kn (Wl.flush s)) B s.at_ s.count pl (.slice (some ⟨gw, 0, none⟩) (Wl.waits s).length cap) false := blk_set (i := 1) HL2.out _
      have f8 := blk_free s1 8
      have s8 : LogAt ((w2.setCell ⟨L, 1, none⟩ (.int .u64 (s.stop : Int))).setCell ⟨L, 8, none⟩ (.slice none 0 0)) L (Wl.kn (Wl.flush s)) B s.at_ s.count pl (.slice none 0 0) false := blk_set (i := 8) s1 _
      have g1 := HL2.out.cell 1 (v := .int .u64 (s.flushed : Int)) rfl
      have g8 := LogAt.cell s1 8 (v := .slice (some ⟨gw, 0, none⟩) (Wl.waits s).length cap) rfl
      have S8 := Lib.hid s8
      have HT8 : Hid (Touch (PutS B m1 m2 L) w ((w2.setCell ⟨L, 1, none⟩ (.int .u64 (s.stop : Int))).setCell ⟨L, 8, none⟩ (.slice none 0 0))) := (HT2.out.trans (.set L 1 _ (Or.inr rfl))).trans (.set L 8 _ (Or.inr rfl))
      have HP8 := Lib.hid ((HP2.out.keep (Touch.set (S := (· = L)) L 1 (.int .u64 (s.stop : Int)) rfl) (fun i hi e => HLD.out (e ▸ hi))).keep (Touch.set (S := (· = L)) L 8 (.slice none 0 0) rfl) (fun i hi e => HLD.out (e ▸ hi)))
      clear s1 s8
      go_wp2_with fail
      go_ret
      refine Or.inl ⟨DS B m1 m2, LogV L pl (.slice none 0 0), d', rfl, ⟨m1, m2, pl, .slice none 0 0, ⟨Wl.ex_flush HM.out.ex, S8.out, ?_, ?_, HM.out.npl, (fun h => by cases h), fun i hi h => by cases h⟩, rfl, HP8.out, rfl, fun i hi hv => ?_, said, HSD.out, HD1.out⟩, HO1.out, HN1.out, HC1.out, HT8.out.mono fun i _ hi => ?_, fun i hi => Or.inl hi, fun i hi => Or.inl ?_⟩
      · exact HM.out.qpl.touch HT8.out (fun g hg hp => by
          rcases hp with hp | hp
          · exact HAW.out g hp (Or.inr (Or.inl hg))
          · exact HM.out.npl (by rw [hg, hp]))
      · rw [wl_waits_flush s HM.out.ex.good]; exact own_nil _ _
      · rcases hv with hv | hv | hv
        · exact HAW.out i hi (Or.inl hv)
        · exact HAW.out i hi (Or.inr (Or.inl hv))
        · cases hv
      · rcases hi with hi | hi
        · exact Or.inl hi
        · exact Or.inr (Or.inl hi)
      · rcases hi with hi | hi | hi
        · exact Or.inl hi
        · exact Or.inr (Or.inl hi)
        · cases hi
    · have h1 : ¬ (k : Int) = 0 := by omega
      have h2 : ((k : Int) != 0) = true := by simp; omega
      have HP1 := Lib.hid hP1
      have HD1 := Lib.hid hD1
      have HN1 := Lib.hid hN1
      have HT1 := Lib.hid ht1
      have HK := Lib.hid hk
      have HO1 := Lib.hid hO1
      have HNC := Lib.hid hnc
      clear hP1 hD1 hN1 ht1 hk hnc hO1 HWR
      go_wp2_with fail
      go_ret
      refine Or.inr ⟨HNC.out, k, DS B m1 m2, d', rfl, HK.out, ⟨m1, m2, HP1.out, rfl⟩, HO1.out, HN1.out, fun ps => Wl.Hd.crash ⟨HM.out.ex, said, HSD.out, HD1.out⟩ ps, HT1.out.mono fun i _ hi => ?_, fun i hi => Or.inl hi⟩
      rcases hi with hi | hi
      · exact Or.inl hi
      · exact Or.inr (Or.inl hi)
end Go.Proofs.YtbpodmallknhfaaGreat
