/- A law's do, kind by kind. Conditions: the program's contracts; both devices are alike. -/
import Derived.Test.YthjciddhghfcbaaDiskDoSt
import Derived.Test.YthjciddhghfcbaaOff
namespace Go.Proofs.Ythjciddhghfcbaa
open Go.RowKit

section
variable {PD : (Nat → Prop) → World → Nat → Dk.Dev → Prop}

set_option maxHeartbeats 1600000 in
set_option maxRecDepth 20000 in
theorem do_two (A : Api PD) (base : Nat) (S : Nat → Prop) (w : World) (B D1 g1 g2 g3 : Nat) (d : Dk.Dev) (o : Opr) (hBo : Both PD base S w B D1 g1 g2 g3 d) (hk : o.kind = 2) :
    Calls Try.prog 12 #[.pointer (some ⟨B, 0, none⟩), .pointer (some ⟨D1, 0, none⟩), OpV o] w (DoPost PD base w D1 g1 g2 g3 (Dk.size d)) := by
  have HA := Lib.hid A
  obtain ⟨kind, at_, fill, short, pk, ps⟩ := o
  simp only at hk
  subst hk
  unfold OpV
  simp only
  go_enter Try.func12, Try.ntmps12
  go_upto_region 1 with (fail)
  obtain ⟨W, hW⟩ : ∃ W, W = w.alloc (.cells (opCells ⟨2, at_, fill, short, pk, ps⟩) 34) := ⟨_, rfl⟩
  have hb0 : Below w.heap.size w W := by rw [hW]; exact (Below.refl _ _).alloc (Nat.le_refl _) _
  have hr0 : W.heap[w.heap.size]? = some (.cells (opCells ⟨2, at_, fill, short, pk, ps⟩) 34 (0, 0)) := by rw [hW]; exact heap_alloc_last _ _
  unfold opCells at hW hr0
  simp only at hW hr0
  rw [← hW]
  clear hW
  obtain ⟨Q, hQ⟩ : ∃ Q, w.heap.size = Q := ⟨_, rfl⟩
  rw [hQ] at hr0
  try rw [hQ]
  have z0 := blk_cell hr0 0 (v := .int .i64 2) rfl
  have z1 := blk_cell hr0 1 (v := .int .i64 at_) rfl
  have z2 := blk_cell hr0 2 (v := .int .i64 fill) rfl
  have z3 := blk_cell hr0 3 (v := .bool short) rfl
  have z4 := blk_cell hr0 4 (v := pk) rfl
  have HB0 := Lib.hid hb0
  have hBo' := Lib.hid hBo
  have HBo := Lib.hid (hBo.below A hb0)
  have HR0 := Lib.hid hr0
  have HQ := Lib.hid hQ
  have HBG := Lib.hid hBo.big
  have HW0 := Lib.hid (hb0.mono hBo.big)
  clear hb0 hr0 hQ hBo
  clear z1 z2 z3 z4
  go_wp2_with fail
  refine (HA.out.sync HBo.out.p).mono ?_
  rintro e w1 ⟨rfl, hw⟩
  obtain ⟨S1, hp1, hr1, ha1, hd1, hz1, -, hbl1⟩ := HBo.out.went hw
  have HP1 := Lib.hid hp1
  have HR1 := Lib.hid hr1
  have HA1 := Lib.hid ha1
  have HD1 := Lib.hid hd1
  have HZ1 := Lib.hid hz1
  have HW1 := Lib.hid (HW0.out.trans hbl1)
  clear hw hp1 hr1 ha1 hd1 hz1 hbl1 z0
  go_wp2_with fail
  refine (refSync_any D1 g1 g2 g3 d w1 HR1.out).mono ?_
  rintro e w2 ⟨rfl, hr2, ht2⟩
  obtain ⟨hB2, hbl2⟩ := both_of HA.out HP1.out HA1.out HBo.out.rs HD1.out HZ1.out hr2 ht2
  have HB2 := Lib.hid hB2
  have HW2 := Lib.hid (HW1.out.trans hbl2)
  clear hr2 ht2 hB2 hbl2
  generalize ((Dk.sync d).2 : Int) = cc at *
  go_wp2_with fail
  go_ret2
  exact ⟨B, S1, (Dk.sync d).1, rfl, HB2.out, Dk.sync_size _ HBo.out.r.ok.w, HW2.out⟩

set_option maxHeartbeats 1600000 in
set_option maxRecDepth 20000 in
theorem do_else (A : Api PD) (base : Nat) (S : Nat → Prop) (w : World) (B D1 g1 g2 g3 : Nat) (d : Dk.Dev) (o : Opr) (hBo : Both PD base S w B D1 g1 g2 g3 d) (hk : o.kind < 0 ∨ 5 < o.kind) :
    Calls Try.prog 12 #[.pointer (some ⟨B, 0, none⟩), .pointer (some ⟨D1, 0, none⟩), OpV o] w (DoPost PD base w D1 g1 g2 g3 (Dk.size d)) := by
  have HA := Lib.hid A
  obtain ⟨kind, at_, fill, short, pk, ps⟩ := o
  simp only at hk
  have hk0 : kind ≠ 0 := by omega
  have hk1 : kind ≠ 1 := by omega
  have hk2 : kind ≠ 2 := by omega
  have hk3 : kind ≠ 3 := by omega
  have hk4 : kind ≠ 4 := by omega
  have hk5 : kind ≠ 5 := by omega
  clear hk
  unfold OpV
  simp only
  go_enter Try.func12, Try.ntmps12
  go_upto_region 1 with (fail)
  obtain ⟨W, hW⟩ : ∃ W, W = w.alloc (.cells (opCells ⟨kind, at_, fill, short, pk, ps⟩) 34) := ⟨_, rfl⟩
  have hb0 : Below w.heap.size w W := by rw [hW]; exact (Below.refl _ _).alloc (Nat.le_refl _) _
  have hr0 : W.heap[w.heap.size]? = some (.cells (opCells ⟨kind, at_, fill, short, pk, ps⟩) 34 (0, 0)) := by rw [hW]; exact heap_alloc_last _ _
  unfold opCells at hW hr0
  simp only at hW hr0
  rw [← hW]
  clear hW
  obtain ⟨Q, hQ⟩ : ∃ Q, w.heap.size = Q := ⟨_, rfl⟩
  rw [hQ] at hr0
  try rw [hQ]
  have z0 := blk_cell hr0 0 (v := .int .i64 kind) rfl
  have z1 := blk_cell hr0 1 (v := .int .i64 at_) rfl
  have z2 := blk_cell hr0 2 (v := .int .i64 fill) rfl
  have z3 := blk_cell hr0 3 (v := .bool short) rfl
  have z4 := blk_cell hr0 4 (v := pk) rfl
  have HB0 := Lib.hid hb0
  have hBo' := Lib.hid hBo
  have HBo := Lib.hid (hBo.below A hb0)
  have HR0 := Lib.hid hr0
  have HQ := Lib.hid hQ
  have HBG := Lib.hid hBo.big
  have HW0 := Lib.hid (hb0.mono hBo.big)
  clear hb0 hr0 hQ hBo
  clear z1 z2 z3 z4
  go_wp2_with fail
  go_ret2
  exact ⟨B, S, d, rfl, HBo.out, rfl, HW0.out⟩

set_option maxHeartbeats 1600000 in
set_option maxRecDepth 20000 in
theorem do_one (A : Api PD) (base : Nat) (S : Nat → Prop) (w : World) (B D1 g1 g2 g3 : Nat) (d : Dk.Dev) (o : Opr) (hBo : Both PD base S w B D1 g1 g2 g3 d) (hk : o.kind = 1) :
    Calls Try.prog 12 #[.pointer (some ⟨B, 0, none⟩), .pointer (some ⟨D1, 0, none⟩), OpV o] w (DoPost PD base w D1 g1 g2 g3 (Dk.size d)) := by
  have HA := Lib.hid A
  obtain ⟨kind, at_, fill, short, pk, ps⟩ := o
  simp only at hk
  subst hk
  unfold OpV
  simp only
  go_enter Try.func12, Try.ntmps12
  go_upto_region 1 with (fail)
  obtain ⟨W, hW⟩ : ∃ W, W = w.alloc (.cells (opCells ⟨1, at_, fill, short, pk, ps⟩) 34) := ⟨_, rfl⟩
  have hb0 : Below w.heap.size w W := by rw [hW]; exact (Below.refl _ _).alloc (Nat.le_refl _) _
  have hr0 : W.heap[w.heap.size]? = some (.cells (opCells ⟨1, at_, fill, short, pk, ps⟩) 34 (0, 0)) := by rw [hW]; exact heap_alloc_last _ _
  unfold opCells at hW hr0
  simp only at hW hr0
  rw [← hW]
  clear hW
  obtain ⟨Q, hQ⟩ : ∃ Q, w.heap.size = Q := ⟨_, rfl⟩
  rw [hQ] at hr0
  try rw [hQ]
  have z0 := blk_cell hr0 0 (v := .int .i64 1) rfl
  have z1 := blk_cell hr0 1 (v := .int .i64 at_) rfl
  have z2 := blk_cell hr0 2 (v := .int .i64 fill) rfl
  have z3 := blk_cell hr0 3 (v := .bool short) rfl
  have z4 := blk_cell hr0 4 (v := pk) rfl
  have HB0 := Lib.hid hb0
  have hBo' := Lib.hid hBo
  have HBo := Lib.hid (hBo.below A hb0)
  have HR0 := Lib.hid hr0
  have HQ := Lib.hid hQ
  have HBG := Lib.hid hBo.big
  have HW0 := Lib.hid (hb0.mono hBo.big)
  clear hb0 hr0 hQ hBo
  clear z2 z3 z4
  go_wp2_with fail
  refine (HA.out.read at_ HBo.out.p).mono ?_
  rintro e w1 ⟨u, rfl, hO, hb1⟩
  have HO := Lib.hid hO
  have HB1 := Lib.hid (HBo.out.below HA.out hb1)
  have HW1 := Lib.hid (HW0.out.trans (hb1.mono HBo.out.big))
  have HBW1 := Lib.hid hb1
  obtain ⟨p, cap, rfl, hcap, -, -⟩ := hO.bts.form
  have hlen := hO.len
  have y1 : w1.cell? ⟨Q, 1, none⟩ = some (.int .i64 at_) := blk_cell (by rw [hb1.block Q (lt_of_block HR0.out)]; exact HR0.out) 1 rfl
  clear hO hb1 z0 z1
  go_wp2_with fail
  refine (refRead_any D1 g1 g2 g3 d at_ w1 HB1.out.r).mono ?_
  rintro e w2 ⟨rfl, rfl⟩
  have hcv := strOf_conv HO.out.bts
  unfold sv
  have HBT := Lib.hid HO.out
  generalize strOfNums ((Dk.read d at_).1.map fun x : Nat => (x : Int)) = X at *
  generalize ((Dk.read d at_).2 : Int) = cc at *
  generalize (Dk.read d at_).1 = l at *
  clear y1
  go_wp2_with fail
  clear hcv
  rcases Nat.eq_zero_or_pos l.length with h0 | h0
  · rw [h0] at *
    go_loopw [17] (fun i wr => i = .int .i64 0 ∧ wr = w2) (fun i _ => 0)
    case atStart => exact ⟨rfl, rfl⟩
    case round =>
      obtain ⟨rfl, rfl⟩ := hrel
      go_wp2_with fail
      go_ret2
      exact ⟨B, S, d, rfl, HB1.out, rfl, HW1.out⟩
  · obtain ⟨g, cap2, hv, hgb, hgl, hc1, hc2, hrow⟩ := HBT.out.row h0
    simp only [Value.slice.injEq] at hv
    obtain ⟨rfl, -, rfl⟩ := hv
    have HRW := Lib.hid hrow
    have HGB := Lib.hid hgb
    have hlen2 : (l.length : Int) ≤ 140737488355328 := by omega
    clear hrow hgb hgl
    go_loopw [17] (fun i wr => ∃ k : Nat, k ≤ l.length ∧ i = .int .i64 k ∧ RowT wr g l.length ∧ Touch (fun j => j = g) w2 wr) (fun i _ => l.length - (intOf i).toNat)
    case atStart => exact ⟨0, Nat.zero_le _, rfl, HRW.out, .refl _ _⟩
    case round =>
      obtain ⟨k, hk, rfl, hR, hT⟩ := hrel
      have HRk := Lib.hid hR
      have HTk := Lib.hid hT
      clear hR hT
      by_cases hlt : k < l.length
      · obtain ⟨x, -, hx⟩ := HRk.out.cell k hlt
        have hf := HRk.out.free k
        have HN := Lib.hid (HRk.out.set k 99 (by decide))
        have HT2 := Lib.hid (HTk.out.trans (.set g k (.int .u8 99) rfl))
        have hki : (k : Int) < (l.length : Int) := by omega
        go_wp2_with fail
        go_roundw
        case rel => exact ⟨k + 1, by omega, by go_num, HN.out, HT2.out⟩
        case measure => simp [intOf]; omega
      · obtain rfl : k = l.length := by omega
        go_wp2_with fail
        go_ret2
        have hgs : ∀ i, S i → ¬ i = g := fun i hi e => by have := HA.out.lt HBo.out.p i hi; have := HGB.out; omega
        have hgr : ∀ i, RS D1 g1 g2 g3 i → ¬ i = g := fun i hi e => by have := HBo.out.r.lt i hi; have := HGB.out; omega
        refine ⟨B, S, d, rfl, HB1.out.keep HA.out HTk.out hgs hgr, rfl, ?_⟩
        exact HW1.out.trans (HTk.out.below (fun i e => by have := HGB.out; have := HBo.out.big; omega) HB1.out.big)

set_option maxHeartbeats 1600000 in
set_option maxRecDepth 20000 in
theorem do_five (A : Api PD) (base : Nat) (S : Nat → Prop) (w : World) (B D1 g1 g2 g3 : Nat) (d : Dk.Dev) (o : Opr) (hBo : Both PD base S w B D1 g1 g2 g3 d) (hk : o.kind = 5) :
    Calls Try.prog 12 #[.pointer (some ⟨B, 0, none⟩), .pointer (some ⟨D1, 0, none⟩), OpV o] w (DoPost PD base w D1 g1 g2 g3 (Dk.size d)) := by
  have HA := Lib.hid A
  obtain ⟨kind, at_, fill, short, pk, ps⟩ := o
  simp only at hk
  subst hk
  unfold OpV
  simp only
  go_enter Try.func12, Try.ntmps12
  go_upto_region 1 with (fail)
  obtain ⟨W, hW⟩ : ∃ W, W = w.alloc (.cells (opCells ⟨5, at_, fill, short, pk, ps⟩) 34) := ⟨_, rfl⟩
  have hb0 : Below w.heap.size w W := by rw [hW]; exact (Below.refl _ _).alloc (Nat.le_refl _) _
  have hr0 : W.heap[w.heap.size]? = some (.cells (opCells ⟨5, at_, fill, short, pk, ps⟩) 34 (0, 0)) := by rw [hW]; exact heap_alloc_last _ _
  unfold opCells at hW hr0
  simp only at hW hr0
  rw [← hW]
  clear hW
  obtain ⟨Q, hQ⟩ : ∃ Q, w.heap.size = Q := ⟨_, rfl⟩
  rw [hQ] at hr0
  try rw [hQ]
  have z0 := blk_cell hr0 0 (v := .int .i64 5) rfl
  have z1 := blk_cell hr0 1 (v := .int .i64 at_) rfl
  have z2 := blk_cell hr0 2 (v := .int .i64 fill) rfl
  have z3 := blk_cell hr0 3 (v := .bool short) rfl
  have z4 := blk_cell hr0 4 (v := pk) rfl
  have HB0 := Lib.hid hb0
  have hBo' := Lib.hid hBo
  have HBo := Lib.hid (hBo.below A hb0)
  have HR0 := Lib.hid hr0
  have HQ := Lib.hid hQ
  have HBG := Lib.hid hBo.big
  have HW0 := Lib.hid (hb0.mono hBo.big)
  clear hb0 hr0 hQ hBo
  clear z1 z2 z3 z4
  go_wp2_with fail
  refine (HA.out.copy HBo.out.p).mono ?_
  rintro e w1 ⟨B', S', rfl, hp, hs, hb1⟩
  have hsp : Spoil PD base S' w1 B' D1 g1 g2 g3 d S B d := ⟨⟨hp, HBo.out.r.below hb1, fun i hi => by have := hs i hi; have := HBo.out.big; omega, HBo.out.rs, fun i hi hr => by have := hs i hi; have := HBo.out.r.lt i hr; omega, Nat.le_trans HBo.out.big hb1.size⟩,
    HA.out.below HBo.out.p hb1, HBo.out.ps, fun i hi hs' => by have := hs i hs'; have := HA.out.lt HBo.out.p i hi; omega, HBo.out.apart⟩
  have HS1 := Lib.hid hsp
  have HW1 := Lib.hid (HW0.out.trans (hb1.mono HBo.out.big))
  clear hp hs hb1 hsp z0
  go_wp2_with fail
  have hal : Below w1.heap.size w1 (w1.alloc (.cells ([1, 2, 3].map fun x : Nat => Value.int .u8 (x : Int)).toArray 5)) := (Below.refl _ _).alloc (Nat.le_refl _) _
  have hs2 := HS1.out.below HA.out hal
  refine (HA.out.crash _ [1, 2, 3] hs2.old (bts_alloc w1 [1, 2, 3] 3 (by decide) _ _ (by decide) (by decide)) (fun _ g hg hs => ?_)).mono ?_
  · simp only [Value.ownBlock, Option.some.injEq] at hg
    have := HA.out.lt HS1.out.old g hs
    omega
  rintro e w2 ⟨rfl, hw2⟩
  obtain ⟨S2, hs3, hb2⟩ := hs2.went HA.out hw2
  have HS2 := Lib.hid hs3
  have HW2 := Lib.hid ((HW1.out.trans (hal.mono HS1.out.both.big)).trans hb2)
  clear hal hs2 hw2 hs3 hb2 HS1 HW1
  go_wp2_with fail
  refine (sector_own 200 w2).mono ?_
  rintro e w3 ⟨g, rfl, hg, hO, hb3⟩
  have hs4 := HS2.out.below HA.out hb3
  have HC := Lib.hid ((HA.out.write 0 _ _ hs4.old hO.bts (fun _ g' hg' hs => by
    simp only [Value.ownBlock, Option.some.injEq] at hg'
    have := HA.out.lt HS2.out.old g' hs
    omega)))
  have HS3 := Lib.hid hs4
  have HW3 := Lib.hid (HW2.out.trans (hb3.mono HS2.out.both.big))
  clear hg hO hb3 hs4 HS2 HW2
  go_wp2_with fail
  refine HC.out.mono ?_
  rintro e w4 ⟨rfl, hw4⟩
  obtain ⟨S4, hs4, hb4⟩ := HS3.out.went HA.out hw4
  have HS4 := Lib.hid hs4
  have HW4 := Lib.hid (HW3.out.trans hb4)
  clear hs4 hw4 hb4 HS3 HW3 HC
  generalize ((Dk.write _ 0 (secL 200)).2 : Int) = cw
  go_wp2_with fail
  refine (HA.out.sync HS4.out.old).mono ?_
  rintro e w5 ⟨rfl, hw5⟩
  obtain ⟨S5, hs5, hb5⟩ := HS4.out.went HA.out hw5
  have HS5 := Lib.hid hs5
  have HW5 := Lib.hid (HW4.out.trans hb5)
  clear hs5 hw5 hb5 HS4 HW4
  generalize ((Dk.sync _).2 : Int) = cs
  go_wp2_with fail
  go_ret2
  exact ⟨B', S', d, rfl, HS5.out.both, rfl, HW5.out⟩

set_option maxHeartbeats 1600000 in
set_option maxRecDepth 20000 in
theorem do_four (A : Api PD) (base : Nat) (S : Nat → Prop) (w : World) (B D1 g1 g2 g3 : Nat) (d : Dk.Dev) (o : Opr) (hBo : Both PD base S w B D1 g1 g2 g3 d) (hk : o.kind = 4) (hpk : Bts w o.pk o.ps) (hpb : 0 < o.ps.length → ∀ g, o.pk.ownBlock = some g → g < base) :
    Calls Try.prog 12 #[.pointer (some ⟨B, 0, none⟩), .pointer (some ⟨D1, 0, none⟩), OpV o] w (DoPost PD base w D1 g1 g2 g3 (Dk.size d)) := by
  have HA := Lib.hid A
  obtain ⟨kind, at_, fill, short, pk, ps⟩ := o
  simp only at hk
  subst hk
  unfold OpV
  simp only
  go_enter Try.func12, Try.ntmps12
  go_upto_region 1 with (fail)
  obtain ⟨W, hW⟩ : ∃ W, W = w.alloc (.cells (opCells ⟨4, at_, fill, short, pk, ps⟩) 34) := ⟨_, rfl⟩
  have hb0 : Below w.heap.size w W := by rw [hW]; exact (Below.refl _ _).alloc (Nat.le_refl _) _
  have hr0 : W.heap[w.heap.size]? = some (.cells (opCells ⟨4, at_, fill, short, pk, ps⟩) 34 (0, 0)) := by rw [hW]; exact heap_alloc_last _ _
  unfold opCells at hW hr0
  simp only at hW hr0
  rw [← hW]
  clear hW
  obtain ⟨Q, hQ⟩ : ∃ Q, w.heap.size = Q := ⟨_, rfl⟩
  rw [hQ] at hr0
  try rw [hQ]
  have z0 := blk_cell hr0 0 (v := .int .i64 4) rfl
  have z1 := blk_cell hr0 1 (v := .int .i64 at_) rfl
  have z2 := blk_cell hr0 2 (v := .int .i64 fill) rfl
  have z3 := blk_cell hr0 3 (v := .bool short) rfl
  have z4 := blk_cell hr0 4 (v := pk) rfl
  have HB0 := Lib.hid hb0
  have hBo' := Lib.hid hBo
  have HBo := Lib.hid (hBo.below A hb0)
  have HR0 := Lib.hid hr0
  have HQ := Lib.hid hQ
  have HBG := Lib.hid hBo.big
  have HW0 := Lib.hid (hb0.mono hBo.big)
  clear hb0 hr0 hQ hBo
  have hpk0 : Bts w pk ps := hpk
  have hpb0 : 0 < ps.length → ∀ g, pk.ownBlock = some g → g < base := hpb
  have HPK := Lib.hid (hpk0.below HB0.out)
  have HPB := Lib.hid hpb0
  obtain ⟨pp, pc, rfl, hpc, -, -⟩ := hpk0.form
  clear hpk hpb hpk0 hpb0
  have hal : Below W.heap.size W (W.alloc (.cells #[] 5)) := (Below.refl _ _).alloc (Nat.le_refl _) _
  have z5 : (W.alloc (.cells #[] 5)).cell? ⟨Q, 4, none⟩ = some (.slice pp ps.length pc) := blk_cell (by rw [hal.block Q (lt_of_block HR0.out)]; exact HR0.out) 4 rfl
  clear z1 z2 z3 z4
  go_upto_region 28 with (fail)
  iterate 10 go_step
  clear z5
  have hlp := HPK.out.len
  have HLP := Lib.hid hlp
  refine wpList_append_Own rfl (.tmp 135) (.tmp 137) rfl W.heap.size _ [] rfl (own_empty W W.heap.size 0 #[] (Nat.le_refl _) (by decide) rfl) _ ps rfl (HPK.out.below hal) (by rw [List.length_nil]; omega) hal.size ?_
  intro v2 w2 hown2 hb2 _
  rw [List.nil_append] at hown2
  have hb3 := hal.trans hb2
  have HO := Lib.hid hown2
  have HB2 := Lib.hid (HBo.out.below HA.out hb3)
  have HPK2 := Lib.hid (HPK.out.below hb3)
  have HW2 := Lib.hid (HW0.out.trans (hb3.mono HBo.out.big))
  have HR2 := Lib.hid (show w2.heap[Q]? = _ from (hb3.block Q (lt_of_block HR0.out)).trans HR0.out)
  have HVB := Lib.hid (show 0 < ps.length → ∀ g, v2.ownBlock = some g → ¬ S g from fun h0 g hg hs => by
    have h1 := (hown2.own.lt g hg).1
    have := HA.out.lt HBo.out.p g hs
    omega)
  have HVR := Lib.hid (show 0 < ps.length → ∀ g, v2.ownBlock = some g → W.heap.size ≤ g from fun h0 g hg => (hown2.own.lt g hg).1)
  obtain ⟨q2, c2, rfl, -, -, -⟩ := hown2.bts.form
  clear hown2 hb2 hb3 hal z0
  go_wp2_with fail
  refine (HA.out.crash _ ps HB2.out.p HO.out.bts HVB.out).mono ?_
  rintro e w3 ⟨rfl, hw3⟩
  obtain ⟨S3, hp3, hr3, ha3, hd3, hz3, ht3, hbl3⟩ := HB2.out.went hw3
  have HP3 := Lib.hid hp3
  have HR3 := Lib.hid hr3
  have HA3 := Lib.hid ha3
  have HD3 := Lib.hid hd3
  have HZ3 := Lib.hid hz3
  have HW3 := Lib.hid (HW2.out.trans hbl3)
  have hbk := ht3.bts HPK2.out (fun h0 g hg hs => by have := HPB.out h0 g hg; have := HB2.out.ps g hs; omega)
  have hbo := ht3.bts HO.out.bts (fun h0 g hg hs => HVB.out h0 g hg hs)
  have hcv := strOf_conv hbk
  have hcw := strOf_conv hbo
  have HBK := Lib.hid hbk
  generalize strOfNums (ps.map fun x : Nat => (x : Int)) = X at *
  have hQS : ¬ S Q := fun hs => by have := HA.out.lt hBo'.out.p Q hs; have := HQ.out; omega
  have hrow := ht3.row HR2.out hQS
  have z4 := blk_cell hrow 4 (v := .slice pp ps.length pc) rfl
  clear hw3 hp3 hr3 ha3 hd3 hz3 ht3 hbl3 hbk hbo hrow
  go_wp2_with fail
  refine (refCrash_any D1 g1 g2 g3 d _ ps w3 HR3.out HBK.out (fun h0 g hg hs => by have := HPB.out h0 g hg; have := HB2.out.rs g hs; omega)).mono ?_
  rintro e w4 ⟨rfl, hr4, ht4⟩
  obtain ⟨hB4, hbl4⟩ := both_of HA.out HP3.out HA3.out HBo.out.rs HD3.out HZ3.out hr4 ht4
  have HB4 := Lib.hid hB4
  have HW4 := Lib.hid (HW3.out.trans hbl4)
  clear hr4 ht4 hB4 hbl4 hcv hcw z4
  go_wp2_with fail
  go_ret2
  exact ⟨B, S3, Dk.crash d ps, rfl, HB4.out, Dk.crash_size _ _ HBo.out.r.ok.w, HW4.out⟩
end
end Go.Proofs.Ythjciddhghfcbaa
