/- Make, by the program, on a device of noughts. Conditions: the device is on. -/
import Derived.Test.YtafpjcobagofcaaGreatWlRd
import Derived.Test.YtafpjcobagofcaaGreatWlTell
import Derived.Test.YtafpjcobagofcaaGreatWlPL
import Derived.Test.YtafpjcobagofcaaGreatWlBase
import Derived.Test.YtafpjcobagofcaaGreatLrEq
namespace Go.Proofs.YtafpjcobagofcaaGreat
open Go.RowKit

def WpF (B L g σ W : Nat) (b : List Nat) (i : Nat) (v : Value) (w : World) : Prop :=
  match i with
  | 0 => v = .pointer (some ⟨L, 0, none⟩)
  | 1 => v = .pointer (some ⟨L, 0, none⟩)
  | 2 => v = .pointer (some ⟨L, 4, none⟩)
  | 3 => v = .pointer (some ⟨B, 0, none⟩)
  | 4 => v = .pointer (some ⟨L, 0, none⟩)
  | 5 => v = .int .u64 (g : Int)
  | 6 => v = .int .i64 (σ : Int)
  | 7 => RdA W w v b
  | 8 => RdA W w v b
  | 9 => Mine W w v b
  | 10 => v = .int .i64 0
  | 11 => Mine W w v b
  | 12 => v = .int .i64 0
  | _ => True
theorem WpF_later (B L g σ W : Nat) (b : List Nat) (i : Nat) (v : Value) (w w' : World) (hb : Below w.heap.size w w') (h : WpF B L g σ W b i v w) : WpF B L g σ W b i v w' := by
  unfold WpF at *
  split at h <;> first | exact h | exact h.below hb | trivial

set_option maxHeartbeats 3200000 in
set_option maxRecDepth 20000 in
theorem wlWipe_any {w : World} {L B a c m1 m2 : Nat} {k0 : Wl.Kn} {pl wa : Value} {dn : Bool} {d : Dk.Dev} (h : LogAt w L k0 B a c pl wa dn) (hP : PDev w B m1 m2 d) (ho : d.off = false) (hc1 : 1 ≤ c) (hc2 : c ≤ 8192) (hfit : a + c + 2 ≤ Dk.size d) (hz : ∀ i, i < Dk.size d → Wl.eff d i = Dk.blank) :
    Calls Tryz.prog 41 #[.pointer (some ⟨L, 0, none⟩)] w fun e w' => e = .returned (.int .i64 0) ∧ Below w.heap.size w w' := by
  have HLG := Lib.hid h
  have HPD := Lib.hid hP
  have HOF := Lib.hid ho
  have HC : Hid (1 ≤ c ∧ c ≤ 8192) := ⟨hc1, hc2⟩
  have hsz := hP.own.size
  have HFT := Lib.hid hfit
  have HA : Hid (a ≤ 65536) := by show _ ≤ _; omega
  have HZ := Lib.hid hz
  have hmk := wb_run 128 (by decide) w
  have hwb := wb_own 128 (by decide) w
  have hbn := below_new1 w (.cells (bytesV (Wl.zeros 128)).toArray 5)
  obtain ⟨z1, hz1⟩ : ∃ z, z = w.alloc (.cells (bytesV (Wl.zeros 128)).toArray 5) := ⟨_, rfl⟩
  obtain ⟨G, hG⟩ : ∃ g, g = w.heap.size := ⟨_, rfl⟩
  rw [← hz1, ← hG, show ((128 : Nat) : Int) = 128 from rfl] at hmk
  rw [← hz1] at hwb hbn
  have HB0 := Lib.hid hbn
  have HO0 := Lib.hid hwb
  obtain ⟨n2, hn2⟩ : ∃ n, n = 2 * c := ⟨_, rfl⟩
  have hhal := fun wr (hl : LogAt wr L k0 B a c pl wa dn) => wlHalves_any hl hc2
  rw [← hn2] at hhal
  rw [← hG] at HO0
  have HHAL := Lib.hid hhal
  have HN2 := Lib.hid hn2
  have HGW := Lib.hid hG
  clear h hP ho hc1 hc2 hfit hz hsz hwb hbn hz1 hn2 hhal hG
  go_enter Tryz.func41, Tryz.ntmps41
  go_upto_region 2 with (fail)
  clear hmk
  go_wp2_with fail
  go_loopw [4] (fun i wr => ∃ j : Nat, j ≤ c ∧ i = .int .u64 ((2 * j : Nat) : Int) ∧ Below z1.heap.size z1 wr) (fun i _ => 2 * c + 2 - (intOf i).toNat)
  case atStart => exact ⟨0, Nat.zero_le _, rfl, Below.refl _ _⟩
  case round =>
    obtain ⟨j, hj, rfl, hb⟩ := hrel
    have HB1 := Lib.hid (HB0.out.trans (hb.mono HB0.out.size))
    have HO1 := Lib.hid (HO0.out.below hb)
    have HBR := Lib.hid hb
    have HLW := Lib.hid (HLG.out.below HB1.out)
    have HPW := Lib.hid (HPD.out.below HB1.out)
    have HCL := Lib.hid (HHAL.out wr HLW.out)
    have HLT : Hid (L < wr.heap.size) := HLW.out.lt
    have C4 := Lib.hid (HLW.out.cell 4 (v := .pointer (some ⟨B, 0, none⟩)) rfl)
    obtain ⟨g, hg⟩ : ∃ g, g = 2 * j := ⟨_, rfl⟩
    rw [← hg]
    have HGJ := Lib.hid hg
    have HJ := Lib.hid hj
    clear hb hj hg
    by_cases hlt : g < n2
    · have hi : (g : Int) < (n2 : Int) := by omega
      have HSZ : Hid (a + 2 + g % (2 * c) / 2 < Dk.size d) := by
        have h1 := Wl.sec_lt (n := c) (h := g) HC.out.1
        have h2 := HFT.out
        show _ < _
        omega
      have HEF : Hid (Wl.eff d (a + 2 + g % (2 * c) / 2) = Dk.blank) := HZ.out _ HSZ.out
      have HGL : Hid (g < n2) := hlt
      have h6 := IntWalk.u64_in ((g : Int) + 2) (by have h1 := HN2.out; have h2 := HC.out; omega)
      clear hlt
      go_upto_region 5 with (go_at_call 35; refine HCL.out.mono ?_; rintro e w' ⟨rfl, rfl⟩)
      clear HCL
      refine Ord.walk (WpF B L g (a + 2 + g % (2 * c) / 2) wr.heap.size Dk.blank) (fun _ _ w' => Below wr.heap.size wr w') (fun a b => Below a.heap.size a b)
        (by kernel_rfl) (by kernel_rfl) ?fra ?hfra (fun i v w w' hb h => WpF_later _ _ _ _ _ _ i v w w' hb h) (fun xs => (Below.refl _ _).go1) ?hea ?henda
      case hfra =>
        intro xs
        simp only [Ord.fill, Act.put, List.setIfInBounds_toArray, List.set_cons_zero, List.set_cons_succ]
        rfl
      case hea =>
        refine Ord.each_cons (fun D xs w2 hD hC hP hR hA K hK => ?_) ?_
        · -- 0
          clear hA
          go_simp
          exact hK _ _ ⟨_, rfl, Below.refl _ _, hR, rfl⟩
        refine Ord.each_cons (fun D xs w2 hD hC hP hR hA K hK => ?_) ?_
        · -- 1
          have q0 := Ord.ahead_get _ hA 0 (by decide)
          simp only [WpF] at q0
          simp only [q0] at hK
          clear hA
          go_simp
          exact hK _ _ ⟨_, rfl, Below.refl _ _, hR, rfl⟩
        refine Ord.each_cons (fun D xs w2 hD hC hP hR hA K hK => ?_) ?_
        · -- 2
          have q1 := Ord.ahead_get _ hA 1 (by decide)
          simp only [WpF] at q1
          simp only [q1] at hK
          clear hA
          go_simp
          exact hK _ _ ⟨_, rfl, Below.refl _ _, hR, rfl⟩
        refine Ord.each_cons (fun D xs w2 hD hC hP hR hA K hK => ?_) ?_
        · -- 3
          have q2 := Ord.ahead_get _ hA 2 (by decide)
          simp only [WpF] at q2
          simp only [q2] at hK
          clear hA
          have cc := hR.cell (p := ⟨L, 4, none⟩) HLT.out
          rw [C4.out] at cc
          go_simp
          exact hK _ _ ⟨_, rfl, Below.refl _ _, hR, rfl⟩
        refine Ord.each_cons (fun D xs w2 hD hC hP hR hA K hK => ?_) ?_
        · -- 4
          clear hA
          go_simp
          exact hK _ _ ⟨_, rfl, Below.refl _ _, hR, rfl⟩
        refine Ord.each_cons (fun D xs w2 hD hC hP hR hA K hK => ?_) ?_
        · -- 5
          clear hA
          go_simp
          exact hK _ _ ⟨_, rfl, Below.refl _ _, hR, rfl⟩
        refine Ord.each_cons (fun D xs w2 hD hC hP hR hA K hK => ?_) ?_
        · -- 6
          have q4 := Ord.ahead_get _ hA 4 (by decide)
          simp only [WpF] at q4
          have q5 := Ord.ahead_get _ hA 5 (by decide)
          simp only [WpF] at q5
          simp only [q4, q5] at hK
          clear hA
          go_simp
          refine (wlSector_any (HLW.out.below hR) g HC.out.1 HC.out.2 HA.out).mono ?_
          rintro e w' ⟨rfl, q, rfl⟩
          exact hK _ _ ⟨_, rfl, below_drewN _ _ _, hR.trans (below_drewN _ _ _), rfl⟩
        refine Ord.each_cons (fun D xs w2 hD hC hP hR hA K hK => ?_) ?_
        · -- 7
          have q3 := Ord.ahead_get _ hA 3 (by decide)
          simp only [WpF] at q3
          have q6 := Ord.ahead_get _ hA 6 (by decide)
          simp only [WpF] at q6
          simp only [q3, q6] at hK
          clear hA
          have hrd := wlRead_any (HPW.out.below hR) HOF.out HSZ.out
          rw [HEF.out] at hrd
          go_simp
          refine hrd.mono ?_
          rintro e w' ⟨u, rfl, hM, hb⟩
          exact hK _ _ ⟨_, rfl, hb, hR.trans (hb.mono hR.size), u, rfl, hM.from hR.size⟩
        refine Ord.each_cons (fun D xs w2 hD hC hP hR hA K hK => ?_) ?_
        · -- 8
          have q7 := Ord.ahead_get _ hA 7 (by decide)
          simp only [WpF] at q7
          clear hA
          go_simp
          exact hK _ _ ⟨_, rfl, Below.refl _ _, hR, q7⟩
        refine Ord.each_cons (fun D xs w2 hD hC hP hR hA K hK => ?_) ?_
        · -- 9
          have q8 := Ord.ahead_get _ hA 8 (by decide)
          simp only [WpF] at q8
          obtain ⟨u8, e8, m8⟩ := q8
          clear hA
          rw [e8] at hK ⊢
          go_simp
          exact hK _ _ ⟨_, rfl, Below.refl _ _, hR, m8⟩
        refine Ord.each_cons (fun D xs w2 hD hC hP hR hA K hK => ?_) ?_
        · -- 10
          have q8 := Ord.ahead_get _ hA 8 (by decide)
          simp only [WpF] at q8
          obtain ⟨u8, e8, m8⟩ := q8
          clear hA
          rw [e8] at hK ⊢
          go_simp
          exact hK _ _ ⟨_, rfl, Below.refl _ _, hR, rfl⟩
        refine Ord.each_cons (fun D xs w2 hD hC hP hR hA K hK => ?_) ?_
        · -- 11
          have q9 := Ord.ahead_get _ hA 9 (by decide)
          simp only [WpF] at q9
          clear hA
          go_simp
          exact hK _ _ ⟨_, rfl, Below.refl _ _, hR, q9⟩
        refine Ord.each_cons (fun D xs w2 hD hC hP hR hA K hK => ?_) ?_
        · -- 12
          have q10 := Ord.ahead_get _ hA 10 (by decide)
          simp only [WpF] at q10
          simp only [q10] at hK
          clear hA
          go_simp
          exact hK _ _ ⟨_, rfl, Below.refl _ _, hR, rfl⟩
        exact Ord.each_nil
      case henda =>
        intro D xs w9 hR hF
        have e0 := (hF 0 (by decide)).2
        have e1 := (hF 1 (by decide)).2
        have e2 := (hF 2 (by decide)).2
        have e3 := (hF 3 (by decide)).2
        have e4 := (hF 4 (by decide)).2
        have e5 := (hF 5 (by decide)).2
        have e6 := (hF 6 (by decide)).2
        have e10 := (hF 10 (by decide)).2
        have e12 := (hF 12 (by decide)).2
        have hO11 := (hF 11 (by decide)).2
        simp only [WpF] at e0 e1 e2 e3 e4 e5 e6 e10 e12 hO11
        rw [e0]
        rw [e1]
        rw [e2]
        rw [e3]
        rw [e4]
        rw [e5]
        rw [e6]
        rw [e10]
        rw [e12]
        clear e0 e1 e2 e3 e4 e5 e6 e10 e12
        clear hF
        generalize xs 7 = x7 at *
        generalize xs 8 = x8 at *
        generalize xs 9 = x9 at *
        generalize xs 11 = x11 at *
        have HM := Lib.hid hO11
        have HR9 := Lib.hid hR
        clear hR hO11
        obtain ⟨gb, cap, hu, hgb, hgl, hc1, hc2⟩ := HM.out.some (by decide)
        rw [show Dk.blank.length = 128 from by decide] at hu hc1
        subst hu
        have heq := btEqual_any (.slice (some ⟨gb, 0, none⟩) 128 cap) (.slice (some ⟨G, 0, none⟩) 128 128) Dk.blank (Wl.zeros 128) w9 HM.out.bts (HO1.out.below HR9.out).bts
        rw [show decide (Dk.blank = Wl.zeros 128) = true from decide_eq_true rfl] at heq
        have HEQ := Lib.hid heq
        have HB9 := Lib.hid (HBR.out.trans (HR9.out.mono HBR.out.size))
        clear heq hgb hgl hc1 hc2
        go_wp2_with (go_at_call 65; refine HEQ.out.mono ?_; rintro e w' ⟨rfl, rfl⟩)
        go_roundw
        case rel => exact ⟨j + 1, by have h1 := HGL.out; have h2 := HGJ.out; have h3 := HN2.out; omega, congrArg (Value.int .u64) (by have := HGJ.out; omega), HB9.out⟩
        case measure => have h1 := HGL.out; have h2 := HN2.out; simp only [intOf]; omega
    · have hi : ¬ (g : Int) < (n2 : Int) := by omega
      clear hlt
      go_wp2_with (go_at_call 35; refine HCL.out.mono ?_; rintro e w' ⟨rfl, rfl⟩)
      go_ret
      exact ⟨rfl, HB1.out⟩
set_option maxHeartbeats 3200000 in
set_option maxRecDepth 20000 in
theorem wlBegin_any {w : World} {L B a c m1 m2 n : Nat} {k0 : Wl.Kn} {pl wa : Value} {d : Dk.Dev} (h : LogAt w L k0 B a c pl wa false) (hP : PDev w B m1 m2 d) (hC : Wl.Calm n d) (hc1 : 1 ≤ c) (hc2 : c ≤ 8192) (hfit : a + c + 2 ≤ n) (hz : ∀ i, i < Dk.size d → Wl.eff d i = Dk.blank) (hLd : ¬ DS B m1 m2 L) :
    Calls Tryz.prog 24 #[.pointer (some ⟨L, 0, none⟩)] w fun e w' => e = .returned (.int .i64 0) ∧ LogAt w' L ⟨52, 52, 0, 1⟩ B a c pl wa false ∧ PDev w' B m1 m2 (Wl.told d a (Wl.head a c ⟨52, 52, 0, 1⟩)) ∧ Touch (PutS B m1 m2 L) w w' := by
  have HWI := Lib.hid (wlWipe_any h hP hC.off hc1 hc2 (by rw [hC.sz]; exact hfit) hz)
  have HLG := Lib.hid h
  have HPD := Lib.hid hP
  have HC := Lib.hid hC
  have HFT := Lib.hid hfit
  have HC2 := Lib.hid hc2
  have HLD := Lib.hid hLd
  clear h hP hC hc1 hc2 hfit hz hLd
  go_enter Tryz.func24, Tryz.ntmps24
  go_wp2_with fail
  refine HWI.out.mono ?_
  rintro e w1 ⟨rfl, hb⟩
  have ht : Calls Tryz.prog 33 #[.pointer (some ⟨L, 0, none⟩), .agg #[.int .u64 52, .int .u64 52, .int .u64 0, .int .u32 1]] w1 fun e w' => e = .returned (.int .i64 0) ∧ LogAt w' L ⟨52, 52, 0, 1⟩ B a c pl wa false ∧ PDev w' B m1 m2 (Wl.told d a (Wl.head a c ⟨52, 52, 0, 1⟩)) ∧ Touch (PutS B m1 m2 L) w1 w' :=
    wlTell_any (HLG.out.below hb) (HPD.out.below hb) HC.out ⟨52, 52, 0, 1⟩ HFT.out HC2.out HLD.out
  have HT := Lib.hid ht
  have HB := Lib.hid hb
  clear ht hb HWI
  go_wp2_with fail
  refine HT.out.mono ?_
  rintro e w2 ⟨rfl, hl, hp, ht⟩
  have HE : Hid (_ ∧ _ ∧ _) := ⟨hl, hp, (Touch.of_new HB.out).trans ht⟩
  clear hl hp ht HT
  go_wp2_with fail
  go_ret
  exact ⟨rfl, HE.out⟩
set_option maxHeartbeats 3200000 in
set_option maxRecDepth 20000 in
theorem wlLaid_bad {w : World} {B m1 m2 : Nat} {d : Dk.Dev} (hP : PDev w B m1 m2 d) {a c : Int} (ha : I64' a) (hc : I64' c) (hn : ¬ Wl.Fits (Dk.size d) a c) (f : Value) :
    Calls Tryz.prog 23 #[.pointer (some ⟨B, 0, none⟩), .int .i64 a, .int .i64 c, f] w fun e w' => e = .returned (.tuple #[.pointer none, .int .i64 2]) ∧ w = w' := by
  have hse := (sectors_any hP).mono (R' := fun e w' => e = .returned (.int .i64 (Dk.size d : Nat)) ∧ w = w') fun _ _ ⟨h1, h2⟩ => ⟨h1, h2.symm⟩
  have h1 := hP.own.one
  have h2 := hP.own.size
  obtain ⟨N, hN⟩ : ∃ N, N = Dk.size d := ⟨_, rfl⟩
  rw [← hN] at hse h1 h2 hn
  have hN0 : ¬ (N : Int) = 0 := by omega
  have HSE := Lib.hid hse
  unfold I64' at ha hc
  have hn2 : c < 16 ∨ 8192 < c ∨ a < 0 ∨ (N : Int) - 2 - c < a := by
    unfold Wl.Fits at hn
    omega
  clear hP hN hse hn
  by_cases e1 : c < 16
  · clear ha hc hn2 h1 h2
    go_enter Tryz.func23, Tryz.ntmps23
    go_wp2_with (go_at_call 40; refine HSE.out.mono ?_; rintro e w' ⟨rfl, rfl⟩)
    go_ret2
    exact ⟨rfl, rfl⟩
  by_cases e2 : 8192 < c
  · clear ha hc hn2 h1 h2
    go_enter Tryz.func23, Tryz.ntmps23
    go_wp2_with (go_at_call 40; refine HSE.out.mono ?_; rintro e w' ⟨rfl, rfl⟩)
    go_ret2
    exact ⟨rfl, rfl⟩
  by_cases e3 : a < 0
  · clear ha hc hn2 h1 h2
    go_enter Tryz.func23, Tryz.ntmps23
    go_wp2_with (go_at_call 40; refine HSE.out.mono ?_; rintro e w' ⟨rfl, rfl⟩)
    go_ret2
    exact ⟨rfl, rfl⟩
  · have e4 : (N : Int) - 2 - c < a := by omega
    have w1 := IntWalk.wrap64_in ((N : Int) - 2) (by omega)
    have w2 := IntWalk.wrap64_in ((N : Int) - 2 - c) (by omega)
    clear ha hc hn2 h1 h2
    go_enter Tryz.func23, Tryz.ntmps23
    go_wp2_with (go_at_call 40; refine HSE.out.mono ?_; rintro e w' ⟨rfl, rfl⟩)
    go_ret2
    exact ⟨rfl, rfl⟩
set_option maxHeartbeats 3200000 in
set_option maxRecDepth 20000 in
theorem wlLaid_fits {w : World} {B m1 m2 a c : Nat} {d : Dk.Dev} (hP : PDev w B m1 m2 d) (h1 : 16 ≤ c) (h2 : c ≤ 8192) (h3 : a + c + 2 ≤ Dk.size d) (R : Nat → World → Prop)
    (hf : ∀ w1 L, Below w.heap.size w w1 → w.heap.size ≤ L → LogAt w1 L ⟨0, 0, 0, 0⟩ B a c (.slice none 0 0) (.slice none 0 0) false → Calls Tryz.prog 24 #[.pointer (some ⟨L, 0, none⟩)] w1 fun e w' => e = .returned (.int .i64 0) ∧ R L w') :
    Calls Tryz.prog 23 #[.pointer (some ⟨B, 0, none⟩), .int .i64 (a : Int), .int .i64 (c : Int), .func (.func 24) #[] #[]] w fun e w' => ∃ L, e = .returned (.tuple #[.pointer (some ⟨L, 0, none⟩), .int .i64 0]) ∧ R L w' := by
  have hse := (sectors_any hP).mono (R' := fun e w' => e = .returned (.int .i64 (Dk.size d : Nat)) ∧ w = w') fun _ _ ⟨h1, h2⟩ => ⟨h1, h2.symm⟩
  have h4 := hP.own.one
  have h5 := hP.own.size
  obtain ⟨N, hN⟩ : ∃ N, N = Dk.size d := ⟨_, rfl⟩
  rw [← hN] at hse h3 h4 h5
  have hN0 : ¬ (N : Int) = 0 := by omega
  have HSE := Lib.hid hse
  have e1 : ¬ (c : Int) < 16 := by omega
  have e2 : ¬ (8192 : Int) < (c : Int) := by omega
  have e3 : ¬ (a : Int) < 0 := by omega
  have e4 : ¬ (N : Int) - 2 - (c : Int) < (a : Int) := by omega
  have w1 := IntWalk.wrap64_in ((N : Int) - 2) (by omega)
  have w2 := IntWalk.wrap64_in ((N : Int) - 2 - (c : Int)) (by omega)
  have HF := Lib.hid hf
  clear hP hN hse h1 h2 h3 h4 h5 hf
  go_enter Tryz.func23, Tryz.ntmps23
  go_upto_region 7 with (go_at_call 40; refine HSE.out.mono ?_; rintro e w' ⟨rfl, rfl⟩)
  have hb := below_new1 w (.cells (LogC ⟨0, 0, 0, 0⟩ B a c (.slice none 0 0) (.slice none 0 0) false) 64)
  have hl : LogAt (w.alloc (.cells (LogC ⟨0, 0, 0, 0⟩ B a c (.slice none 0 0) (.slice none 0 0) false) 64)) w.heap.size ⟨0, 0, 0, 0⟩ B a c (.slice none 0 0) (.slice none 0 0) false := heap_alloc_last _ _
  have hc := HF.out _ _ hb (Nat.le_refl _) hl
  have HCC : Hid (Calls Tryz.prog 24 #[.pointer (some ⟨w.heap.size, 0, none⟩)] (w.alloc (.cells #[.int .u64 0, .int .u64 0, .int .u64 0, .int .u32 0, .pointer (some ⟨B, 0, none⟩), .int .i64 (a : Int), .int .i64 (c : Int), .slice none 0 0, .slice none 0 0, .bool false] 64)) fun e w' => e = .returned (.int .i64 0) ∧ R w.heap.size w') := hc
  clear hb hl hc e1 e2 e3 e4 w1 w2 hN0
  generalize (w.alloc (.cells #[.int .u64 0, .int .u64 0, .int .u64 0, .int .u32 0, .pointer (some ⟨B, 0, none⟩), .int .i64 (a : Int), .int .i64 (c : Int), .slice none 0 0, .slice none 0 0, .bool false] 64)) = W at *
  generalize w.heap.size = L at *
  go_wp2_with fail
  refine HCC.out.mono ?_
  rintro e w3 ⟨rfl, hr⟩
  have HR := Lib.hid hr
  clear hr HCC
  go_wp2_with fail
  go_ret2
  exact ⟨_, rfl, HR.out⟩
theorem Wl.eff_fresh (n i : Nat) (hi : i < n) : Wl.eff (Dk.fresh n n) i = Dk.blank := by
  unfold Wl.eff Dk.fresh
  show ((List.replicate n (none : Option (List Nat))).getD i none).getD ((List.replicate n Dk.blank).getD i []) = _
  rw [Wl.none_at]
  show (List.replicate n Dk.blank).getD i [] = _
  rw [List.getD_eq_getElem?_getD, List.getElem?_replicate, if_pos hi]
  rfl
/-- What Make answers. -/
def MkA (U : Nat → Prop) (n B : Nat) (a c : Int) (w : World) (e : Ending) (w' : World) : Prop :=
    (Wl.Fits n a c → ∃ L U' V' d', e = .returned (.tuple #[.pointer (some ⟨L, 0, none⟩), .int .i64 0]) ∧ WlPL U' V' w' B L d' (Wl.fresh a.toNat c.toNat) ∧ Wl.Calm n d' ∧ Touch U w w' ∧ Grew U U' w ∧ (∀ i, V' i → w.heap.size ≤ i)) ∧
    (¬ Wl.Fits n a c → e = .returned (.tuple #[.pointer none, .int .i64 2]) ∧ ∃ U' d', WlPD U' w' B d' ∧ Wl.Calm n d' ∧ Touch U w w' ∧ Grew U U' w)
set_option maxHeartbeats 3200000 in
set_option maxRecDepth 20000 in
theorem wl_make {U : Nat → Prop} {w : World} {B n : Nat} (a c : Int) (h : WlPD U w B (Dk.fresh n n)) (hC : Wl.Calm n (Dk.fresh n n)) (ha : I64' a) (hc : I64' c) :
    Calls Tryz.prog 8 #[.pointer (some ⟨B, 0, none⟩), .int .i64 a, .int .i64 c] w fun e w' => MkA U n B a c w e w' := by
  have HPD0 := Lib.hid h
  obtain ⟨m1, m2, hP, rfl⟩ := h
  have hsz : Dk.size (Dk.fresh n n) = n := hC.sz
  by_cases hf : Wl.Fits n a c
  case neg =>
    have hl := wlLaid_bad hP ha hc (by rw [hsz]; exact hf) (.func (.func 24) #[] #[])
    have HL := Lib.hid hl
    have HF := Lib.hid hf
    have HC := Lib.hid hC
    clear hP hsz hl hf ha hc hC
    go_enter Tryz.func8, Tryz.ntmps8
    go_wp2_with fail
    refine HL.out.mono ?_
    rintro e w1 ⟨rfl, rfl⟩
    go_wp2_with fail
    go_ret2
    exact ⟨fun h => absurd h HF.out, fun _ => ⟨rfl, _, _, HPD0.out, HC.out, .refl _ _, fun i hi => Or.inl hi⟩⟩
  case pos =>
    obtain ⟨f1, f2, f3, f4⟩ := hf
    obtain ⟨A, rfl⟩ : ∃ A : Nat, a = (A : Int) := ⟨a.toNat, by omega⟩
    obtain ⟨C, rfl⟩ : ∃ C : Nat, c = (C : Int) := ⟨c.toNat, by omega⟩
    have g1 : 16 ≤ C := by omega
    have g2 : C ≤ 8192 := by omega
    have g3 : A + C + 2 ≤ n := by omega
    have hz : ∀ i, i < Dk.size (Dk.fresh n n) → Wl.eff (Dk.fresh n n) i = Dk.blank := fun i hi => Wl.eff_fresh n i (by rw [← hsz]; exact hi)
    have hl := wlLaid_fits hP (a := A) (c := C) g1 g2 (by rw [hsz]; exact g3)
      (fun L w' => w.heap.size ≤ L ∧ LogAt w' L ⟨52, 52, 0, 1⟩ B A C (.slice none 0 0) (.slice none 0 0) false ∧ PDev w' B m1 m2 (Wl.told (Dk.fresh n n) A (Wl.head A C ⟨52, 52, 0, 1⟩)) ∧ Touch (PutS B m1 m2 L) w w')
      (fun w1 L hb hL hlog => (wlBegin_any hlog (hP.below hb) hC (by omega) g2 g3 hz (fun hd => by have := hP.lt L hd; omega)).mono fun e w' ⟨e1, e2, e3, e4⟩ => ⟨e1, hL, e2, e3, (Touch.of_new hb).trans e4⟩)
    have HL := Lib.hid hl
    have HFF : Hid (Wl.Fits n (A : Int) (C : Int)) := ⟨f1, f2, f3, f4⟩
    have HC := Lib.hid hC
    have HP := Lib.hid hP
    have HG : Hid (16 ≤ C ∧ C ≤ 8192 ∧ A + C + 2 ≤ Dk.size (Dk.fresh n n)) := ⟨g1, g2, by rw [hsz]; exact g3⟩
    have HZ := Lib.hid hz
    clear hP hsz hl ha hc hC f1 f2 f3 f4 g1 g2 g3 hz
    go_enter Tryz.func8, Tryz.ntmps8
    go_wp2_with fail
    refine HL.out.mono ?_
    rintro e w1 ⟨L, rfl, hL, hlog, hp, ht⟩
    have HE : Hid (_ ∧ _ ∧ _ ∧ _) := ⟨hL, hlog, hp, ht⟩
    clear hL hlog hp ht HL
    go_wp2_with fail
    go_ret2
    obtain ⟨hL, hlog, hp, ht⟩ := HE.out
    refine ⟨fun _ => ⟨L, DS B m1 m2, LogV L (.slice none 0 0) (.slice none 0 0), _, rfl, ⟨m1, m2, .slice none 0 0, .slice none 0 0, ⟨Wl.ex_fresh HG.out.1 HG.out.2.1, hlog, qo_nil _ _, own_nil _ _, (fun h => by cases h), (fun h => by cases h), (fun i h => by cases h)⟩, rfl, hp, rfl, fun i hi hv => ?_, 52, Nat.le_refl _, Wl.dv_fresh HP.out.own.ok HG.out.2.2 HZ.out⟩, Wl.calm_told HC.out HP.out.own.ok (Wl.head_sec _ _ _), ht.mono fun i hi hs => ?_, fun i hi => Or.inl hi, fun i hv => ?_⟩, fun h => absurd HFF.out h⟩
    · have h1 := HP.out.lt i hi
      rcases hv with hv | hv | hv
      · omega
      · cases hv
      · cases hv
    · rcases hs with hs | hs
      · exact hs
      · omega
    · rcases hv with hv | hv | hv
      · omega
      · cases hv
      · cases hv
end Go.Proofs.YtafpjcobagofcaaGreat
