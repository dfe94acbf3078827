/- A law's do: Arm and Write of both devices in one statement. Conditions: the program's contracts; both devices are alike. -/
import Derived.Test.YthjciddhghfcbaaDiskDoR
import Derived.Test.YthjciddhghfcbaaOff
namespace Go.Proofs.Ythjciddhghfcbaa
open Go.RowKit

section
variable {PD : (Nat → Prop) → World → Nat → Dk.Dev → Prop}
/-- What the operations of Arm's statement leave. -/
def ArmF (B D1 Q : Nat) (at_ : Int) (c : Nat) (i : Nat) (x : Value) (_ : World) : Prop :=
  match i with
  | 0 => x = .pointer (some ⟨B, 0, none⟩)
  | 1 => x = .pointer (some ⟨B, 0, none⟩)
  | 2 => x = .pointer (some ⟨Q, 1, none⟩)
  | 3 => x = .int .i64 at_
  | 4 => x = .int .i64 (c : Int)
  | 5 => x = .pointer (some ⟨D1, 0, none⟩)
  | 6 => x = .pointer (some ⟨Q, 1, none⟩)
  | 7 => x = .int .i64 at_
  | 8 => x = .int .i64 (c : Int)
  | 9 => x = .bool true
  | 10 => x = .pointer (some ⟨B, 0, none⟩)
  | 11 => x = .bool true
  | _ => True

set_option maxHeartbeats 1600000 in
set_option maxRecDepth 20000 in
theorem do_three (A : Api PD) (base : Nat) (S : Nat → Prop) (w : World) (B D1 g1 g2 g3 : Nat) (d : Dk.Dev) (o : Opr) (hBo : Both PD base S w B D1 g1 g2 g3 d) (hk : o.kind = 3) :
    Calls Try.prog 12 #[.pointer (some ⟨B, 0, none⟩), .pointer (some ⟨D1, 0, none⟩), OpV o] w (DoPost PD base w D1 g1 g2 g3 (Dk.size d)) := by
  have HA := Lib.hid A
  obtain ⟨kind, at_, fill, short, pk, ps⟩ := o
  simp only at hk
  subst hk
  unfold OpV
  simp only
  go_enter Try.func12, Try.ntmps12
  go_upto_region 1 with (fail)
  obtain ⟨W, hW⟩ : ∃ W, W = w.alloc (.cells (opCells ⟨3, at_, fill, short, pk, ps⟩) 34) := ⟨_, rfl⟩
  have hb0 : Below w.heap.size w W := by rw [hW]; exact (Below.refl _ _).alloc (Nat.le_refl _) _
  have hr0 : W.heap[w.heap.size]? = some (.cells (opCells ⟨3, at_, fill, short, pk, ps⟩) 34 (0, 0)) := by rw [hW]; exact heap_alloc_last _ _
  unfold opCells at hW hr0
  simp only at hW hr0
  rw [← hW]
  clear hW
  obtain ⟨Q, hQ⟩ : ∃ Q, w.heap.size = Q := ⟨_, rfl⟩
  rw [hQ] at hr0
  try rw [hQ]
  have z0 := blk_cell hr0 0 (v := .int .i64 3) rfl
  have z1 := blk_cell hr0 1 (v := .int .i64 at_) rfl
  have z2 := blk_cell hr0 2 (v := .int .i64 fill) rfl
  have z3 := blk_cell hr0 3 (v := .bool short) rfl
  have z4 := blk_cell hr0 4 (v := pk) rfl
  have HB0 := Lib.hid hb0
  have hBo' := Lib.hid hBo
  have HBo := Lib.hid (hBo.below A hb0)
  have HR0 := Lib.hid hr0
  have HQ := Lib.hid hQ
  have HBG := Lib.hid hBo.big
  have HW0 := Lib.hid (hb0.mono hBo.big)
  clear hb0 hr0 hQ hBo
  clear z1 z2 z3 z4
  have hrr : RR PD base w W B D1 g1 g2 g3 d (Dk.arm d at_).1 (fun i => i = Q) false false W.drew := (rr_start HBo.out HW0.out fun i hi => by
    subst hi
    refine ⟨lt_of_block HR0.out, fun hs => ?_, fun hs => ?_⟩
    · have := HA.out.lt hBo'.out.p _ hs; have := HQ.out; omega
    · have := hBo'.out.r.lt _ hs; have := HQ.out; omega).skip HA.out (new_drew W)
  have HRR := Lib.hid hrr
  clear hrr
  go_upto_region 26 with (fail)
  clear z0
  refine Ord.walk (ArmF B D1 Q at_ (Dk.arm d at_).2) (fun D _ w' => RR PD base w W B D1 g1 g2 g3 d (Dk.arm d at_).1 (fun i => i = Q) (D 4) (D 8) w') (fun _ _ => True)
    (by kernel_rfl) (by kernel_rfl) ?fr ?hfr (fun _ _ _ _ _ h => h) (fun _ => HRR.out) ?he ?hend
  case hfr =>
    intro xs
    simp only [Ord.fill, Act.put, List.setIfInBounds_toArray, List.set_cons_zero, List.set_cons_succ]
    rfl
  case he =>
    refine Ord.each_cons (fun D xs w2 hD hC hP hR hA K hK => ?_) ?_
    · -- 0
      clear hA
      have hD' : D 0 = false := hD
      go_simp
      exact hK _ _ ⟨_, rfl, trivial, hR.skip HA.out (Below.refl _ _), rfl⟩
    refine Ord.each_cons (fun D xs w2 hD hC hP hR hA K hK => ?_) ?_
    · -- 1
      clear hA
      have hD' : D 1 = false := hD
      go_simp
      exact hK _ _ ⟨_, rfl, trivial, hR.skip HA.out (Below.refl _ _), rfl⟩
    refine Ord.each_cons (fun D xs w2 hD hC hP hR hA K hK => ?_) ?_
    · -- 2
      clear hA
      have hD' : D 2 = false := hD
      go_simp
      exact hK _ _ ⟨_, rfl, trivial, hR.skip HA.out (Below.refl _ _), rfl⟩
    refine Ord.each_cons (fun D xs w2 hD hC hP hR hA K hK => ?_) ?_
    · -- 3
      have q2 := Ord.ahead_get _ hA 2 (by decide)
      simp only [ArmF] at q2
      simp only [q2] at hK
      clear hA
      have hD' : D 3 = false := hD
      have c0 := blk_cell (by rw [hR.keep Q rfl]; exact HR0.out) 1 (v := .int .i64 at_) rfl
      go_simp
      exact hK _ _ ⟨_, rfl, trivial, hR.skip HA.out (Below.refl _ _), rfl⟩
    refine Ord.each_cons (fun D xs w2 hD hC hP hR hA K hK => ?_) ?_
    · -- 4
      have q1 := Ord.ahead_get _ hA 1 (by decide)
      simp only [ArmF] at q1
      have q3 := Ord.ahead_get _ hA 3 (by decide)
      simp only [ArmF] at q3
      simp only [q1, q3] at hK
      clear hA
      have hD' : D 4 = false := hD
      rw [hD'] at hR
      go_simp
      obtain ⟨S', h1, h2, h3, h4⟩ := hR.ex
      refine (HA.out.arm at_ h1).mono ?_
      rintro e w3 ⟨rfl, hw⟩
      exact hK _ _ ⟨_, rfl, trivial, hR.prog h2 h3 h4 hw, rfl⟩
    refine Ord.each_cons (fun D xs w2 hD hC hP hR hA K hK => ?_) ?_
    · -- 5
      clear hA
      have hD' : D 5 = false := hD
      go_simp
      exact hK _ _ ⟨_, rfl, trivial, hR.skip HA.out (Below.refl _ _), rfl⟩
    refine Ord.each_cons (fun D xs w2 hD hC hP hR hA K hK => ?_) ?_
    · -- 6
      clear hA
      have hD' : D 6 = false := hD
      go_simp
      exact hK _ _ ⟨_, rfl, trivial, hR.skip HA.out (Below.refl _ _), rfl⟩
    refine Ord.each_cons (fun D xs w2 hD hC hP hR hA K hK => ?_) ?_
    · -- 7
      have q6 := Ord.ahead_get _ hA 6 (by decide)
      simp only [ArmF] at q6
      simp only [q6] at hK
      clear hA
      have hD' : D 7 = false := hD
      have c0 := blk_cell (by rw [hR.keep Q rfl]; exact HR0.out) 1 (v := .int .i64 at_) rfl
      go_simp
      exact hK _ _ ⟨_, rfl, trivial, hR.skip HA.out (Below.refl _ _), rfl⟩
    refine Ord.each_cons (fun D xs w2 hD hC hP hR hA K hK => ?_) ?_
    · -- 8
      have q5 := Ord.ahead_get _ hA 5 (by decide)
      simp only [ArmF] at q5
      have q7 := Ord.ahead_get _ hA 7 (by decide)
      simp only [ArmF] at q7
      simp only [q5, q7] at hK
      clear hA
      have hD' : D 8 = false := hD
      rw [hD'] at hR
      go_simp
      refine (refArm_any D1 g1 g2 g3 d at_ w2 hR.r).mono ?_
      rintro e w3 ⟨rfl, hr, ht⟩
      exact hK _ _ ⟨_, rfl, trivial, hR.ref HA.out hr ht, rfl⟩
    refine Ord.each_cons (fun D xs w2 hD hC hP hR hA K hK => ?_) ?_
    · -- 9
      have q4 := Ord.ahead_get _ hA 4 (by decide)
      simp only [ArmF] at q4
      have q8 := Ord.ahead_get _ hA 8 (by decide)
      simp only [ArmF] at q8
      simp only [q4, q8] at hK
      clear hA
      have hD' : D 9 = false := hD
      go_simp
      exact hK _ _ ⟨_, rfl, trivial, hR.skip HA.out (Below.refl _ _), rfl⟩
    refine Ord.each_cons (fun D xs w2 hD hC hP hR hA K hK => ?_) ?_
    · -- 10
      have q0 := Ord.ahead_get _ hA 0 (by decide)
      simp only [ArmF] at q0
      simp only [q0] at hK
      clear hA
      have hD' : D 10 = false := hD
      go_simp
      exact hK _ _ ⟨_, rfl, trivial, hR.skip HA.out (Below.refl _ _), rfl⟩
    refine Ord.each_cons (fun D xs w2 hD hC hP hR hA K hK => ?_) ?_
    · -- 11
      have q9 := Ord.ahead_get _ hA 9 (by decide)
      simp only [ArmF] at q9
      simp only [q9] at hK
      clear hA
      have hD' : D 11 = false := hD
      go_simp
      exact hK _ _ ⟨_, rfl, trivial, hR.skip HA.out (Below.refl _ _), rfl⟩
    exact Ord.each_nil
  case hend =>
    intro D xs w2 hR hF
    have e10 := (hF 10 (by decide)).2
    have e11 := (hF 11 (by decide)).2
    simp only [ArmF] at e10 e11
    rw [(hF 4 (by decide)).1, (hF 8 (by decide)).1] at hR
    obtain ⟨S', hB, -, hbl⟩ := hR.done
    have HB2 := Lib.hid hB
    have HBL := Lib.hid hbl
    simp only [e10, e11]
    generalize hz : xs 0 = z00
    generalize hz : xs 1 = z01
    generalize hz : xs 2 = z02
    generalize hz : xs 3 = z03
    generalize hz : xs 4 = z04
    generalize hz : xs 5 = z05
    generalize hz : xs 6 = z06
    generalize hz : xs 7 = z07
    generalize hz : xs 8 = z08
    generalize hz : xs 9 = z09
    clear hR hF e10 e11 hB hbl
    go_wp2_with fail
    go_ret2
    exact ⟨B, S', (Dk.arm d at_).1, rfl, HB2.out, Dk.arm_size _ _, HBL.out⟩
end
end Go.Proofs.Ythjciddhghfcbaa
