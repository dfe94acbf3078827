/- A half of the log as the program reads it on its device, and how many of its bytes are the log's. Conditions: the device is on. -/
import Derived.Test.YtafpjcobagofcaaGreatWlHalf
import Derived.Test.YtafpjcobagofcaaGreatDkM
namespace Go.Proofs.YtafpjcobagofcaaGreat
open Go.RowKit

theorem Mine.below {base : Nat} {w w' : World} {v : Value} {l : List Nat} (h : Mine base w v l) (hb : Below w.heap.size w w') : Mine base w' v l := by
  refine ⟨h.bts.below hb, fun h0 => ?_⟩
  obtain ⟨g, cap, hv, hg, hlt, h1, h2, cur, T, hh, h3, h4⟩ := h.row h0
  exact ⟨g, cap, hv, hg, Nat.lt_of_lt_of_le hlt hb.size, h1, h2, cur, T, (hb.block g hlt).trans hh, h3, h4⟩
theorem Mine.from {base base' : Nat} {w : World} {v : Value} {l : List Nat} (h : Mine base w v l) (hb : base' ≤ base) : Mine base' w v l := by
  refine ⟨h.bts, fun h0 => ?_⟩
  obtain ⟨g, cap, hv, hg, r⟩ := h.row h0
  exact ⟨g, cap, hv, Nat.le_trans hb hg, r⟩
theorem Mine.some {base : Nat} {w : World} {v : Value} {l : List Nat} (h : Mine base w v l) (h0 : 0 < l.length) : ∃ g cap, v = .slice (some ⟨g, 0, none⟩) l.length cap ∧ base ≤ g ∧ g < w.heap.size ∧ l.length ≤ cap ∧ cap ≤ 9223372036854775807 := by
  obtain ⟨g, cap, hv, hg, hlt, h1, h2, -⟩ := h.row h0
  exact ⟨g, cap, hv, hg, hlt, h1, h2⟩
/-- What a read answers that is not refused. -/
def RdA (base : Nat) (w : World) (v : Value) (b : List Nat) : Prop := ∃ u, v = .tuple #[u, .int .i64 0] ∧ Mine base w u b
theorem RdA.below {base : Nat} {w w' : World} {v : Value} {l : List Nat} (h : RdA base w v l) (hb : Below w.heap.size w w') : RdA base w' v l := by
  obtain ⟨u, hv, hm⟩ := h
  exact ⟨u, hv, hm.below hb⟩
theorem wlRead_any {B m1 m2 : Nat} {d : Dk.Dev} {w : World} (h : PDev w B m1 m2 d) (ho : d.off = false) {i : Nat} (hi : i < Dk.size d) :
    Calls Tryz.prog 63 #[.pointer (some ⟨B, 0, none⟩), .int .i64 (i : Int)] w fun e w' => ∃ u, e = .returned (.tuple #[u, .int .i64 0]) ∧ Mine w.heap.size w' u (Wl.eff d i) ∧ Below w.heap.size w w' := by
  have h1 := read_any h (i : Int)
  rw [Dk.read_fine ho hi] at h1
  exact h1
def HlF (B L g σ W : Nat) (b : List Nat) (i : Nat) (v : Value) (w : World) : Prop :=
  match i with
  | 0 => v = .pointer (some ⟨L, 0, none⟩)
  | 1 => v = .pointer (some ⟨L, 0, none⟩)
  | 2 => v = .pointer (some ⟨L, 4, none⟩)
  | 3 => v = .pointer (some ⟨B, 0, none⟩)
  | 4 => v = .pointer (some ⟨L, 0, none⟩)
  | 5 => v = .int .u64 (g : Int)
  | 6 => v = .int .i64 (σ : Int)
  | 7 => RdA W w v b
  | 8 => RdA W w v b
  | 9 => Mine W w v b
  | 10 => v = .int .i64 0
  | 11 => Mine W w v b
  | 12 => v = .int .i64 0
  | _ => True
theorem HlF_later (B L g σ W : Nat) (b : List Nat) (i : Nat) (v : Value) (w w' : World) (hb : Below w.heap.size w w') (h : HlF B L g σ W b i v w) : HlF B L g σ W b i v w' := by
  unfold HlF at *
  split at h <;> first | exact h | exact h.below hb | trivial

theorem hf_bts {w : World} {gb cap : Nat} {b : List Nat} (h : Bts w (.slice (some ⟨gb, 0, none⟩) 128 cap) b) (hb : b.length = 128) (_ : 128 ≤ cap) {j : Nat} (hj : j < 2) : Bts w (.slice (some ⟨gb, 64 * j, none⟩) 64 (cap - 64 * j)) (Wl.hf b j) := by
  have h1 := (hb ▸ h : Bts w (.slice (some ⟨gb, 0, none⟩) b.length cap) b).drop (64 * j) (by omega)
  rw [Nat.zero_add] at h1
  have h2 : (b.drop (64 * j)).length = b.length - 64 * j := List.length_drop ..
  rw [← h2] at h1
  have h3 := h1.take 64 (by rw [h2]; omega)
  exact h3

set_option maxHeartbeats 3200000 in
set_option maxRecDepth 20000 in
theorem wlHalf_any {w : World} {L B a c m1 m2 : Nat} {k0 : Wl.Kn} {pl wa : Value} {dn : Bool} {d : Dk.Dev} (h : LogAt w L k0 B a c pl wa dn) (hP : PDev w B m1 m2 d) (ho : d.off = false) (hc1 : 1 ≤ c) (hc2 : c ≤ 8192) (hfit : a + c + 2 ≤ Dk.size d) (g : Nat) (_ : g < 1000000000000000000) :
    Calls Tryz.prog 54 #[.pointer (some ⟨L, 0, none⟩), .int .u64 (g : Int)] w fun e w' => e = .returned (.tuple #[HfV (Wl.hfOf (Wl.hf (Wl.eff d (a + 2 + g % (2 * c) / 2)) (g % 2))), .int .i64 0]) ∧ Below w.heap.size w w' := by
  obtain ⟨W, hW⟩ : ∃ W, W = w.alloc (.cells HfZ 93) := ⟨_, rfl⟩
  have hb0 : Below w.heap.size w W := by rw [hW]; exact below_new1 _ _
  have hrow : W.heap[w.heap.size]? = some (.cells HfZ 93 (0, 0)) := by rw [hW]; exact heap_alloc_last _ _
  obtain ⟨Q1, hQ⟩ : ∃ Q, Q = w.heap.size := ⟨_, rfl⟩
  rw [← hQ] at hrow
  have hl := h.below hb0
  have HLG := Lib.hid hl
  have HLT : Hid (L < W.heap.size) := hl.lt
  have C4 := Lib.hid (hl.cell 4 (v := .pointer (some ⟨B, 0, none⟩)) rfl)
  have HPD := Lib.hid (hP.below hb0)
  have HOF := Lib.hid ho
  have HC1 := Lib.hid hc1
  have HC2 := Lib.hid hc2
  have hlt := Wl.sec_lt (n := c) (h := g) hc1
  have hsz := hP.own.size
  have HSZ : Hid (a + 2 + g % (2 * c) / 2 < Dk.size d) := by show _ < _; omega
  have HA : Hid (a ≤ 65536) := by show _ ≤ _; omega
  have HSC := Lib.hid (Wl.eff_sec hP.own.ok HSZ.out)
  have HROW := Lib.hid hrow
  have HB0 := Lib.hid hb0
  have HQ := Lib.hid hQ
  have hj1 : (g : Int) % 2 = ((g % 2 : Nat) : Int) := by omega
  have hj2 : g % 2 < 2 := by omega
  generalize g % 2 = j at *
  have hj3 : IntKind.u64.wrap ((j : Int) * 64) = ((64 * j : Nat) : Int) := by rw [IntWalk.u64_in _ (by omega)]; omega
  clear hl h hP hb0 hrow ho hc1 hc2 hfit hlt hsz
  go_enter Tryz.func54, Tryz.ntmps54
  go_upto_region 1 with (fail)
  rw [← hW, ← hQ]
  clear hW hQ
  refine Ord.walk (HlF B L g (a + 2 + g % (2 * c) / 2) W.heap.size (Wl.eff d (a + 2 + g % (2 * c) / 2))) (fun _ _ w' => Below W.heap.size W w') (fun a b => Below a.heap.size a b)
    (by kernel_rfl) (by kernel_rfl) ?fra ?hfra (fun i v w w' hb h => HlF_later _ _ _ _ _ _ i v w w' hb h) (fun xs => (Below.refl _ _).go1) ?hea ?henda
  case hfra =>
    intro xs
    simp only [Ord.fill, Act.put, List.setIfInBounds_toArray, List.set_cons_zero, List.set_cons_succ]
    rfl
  case hea =>
    refine Ord.each_cons (fun D xs w2 hD hC hP hR hA K hK => ?_) ?_
    · -- 0
      clear hA
      go_simp
      exact hK _ _ ⟨_, rfl, Below.refl _ _, hR, rfl⟩
    refine Ord.each_cons (fun D xs w2 hD hC hP hR hA K hK => ?_) ?_
    · -- 1
      have q0 := Ord.ahead_get _ hA 0 (by decide)
      simp only [HlF] at q0
      simp only [q0] at hK
      clear hA
      go_simp
      exact hK _ _ ⟨_, rfl, Below.refl _ _, hR, rfl⟩
    refine Ord.each_cons (fun D xs w2 hD hC hP hR hA K hK => ?_) ?_
    · -- 2
      have q1 := Ord.ahead_get _ hA 1 (by decide)
      simp only [HlF] at q1
      simp only [q1] at hK
      clear hA
      go_simp
      exact hK _ _ ⟨_, rfl, Below.refl _ _, hR, rfl⟩
    refine Ord.each_cons (fun D xs w2 hD hC hP hR hA K hK => ?_) ?_
    · -- 3
      have q2 := Ord.ahead_get _ hA 2 (by decide)
      simp only [HlF] at q2
      simp only [q2] at hK
      clear hA
      have cc := hR.cell (p := ⟨L, 4, none⟩) HLT.out
      rw [C4.out] at cc
      go_simp
      exact hK _ _ ⟨_, rfl, Below.refl _ _, hR, rfl⟩
    refine Ord.each_cons (fun D xs w2 hD hC hP hR hA K hK => ?_) ?_
    · -- 4
      clear hA
      go_simp
      exact hK _ _ ⟨_, rfl, Below.refl _ _, hR, rfl⟩
    refine Ord.each_cons (fun D xs w2 hD hC hP hR hA K hK => ?_) ?_
    · -- 5
      clear hA
      go_simp
      exact hK _ _ ⟨_, rfl, Below.refl _ _, hR, rfl⟩
    refine Ord.each_cons (fun D xs w2 hD hC hP hR hA K hK => ?_) ?_
    · -- 6
      have q4 := Ord.ahead_get _ hA 4 (by decide)
      simp only [HlF] at q4
      have q5 := Ord.ahead_get _ hA 5 (by decide)
      simp only [HlF] at q5
      simp only [q4, q5] at hK
      clear hA
      go_simp
      refine (wlSector_any (HLG.out.below hR) g HC1.out HC2.out HA.out).mono ?_
      rintro e w' ⟨rfl, q, rfl⟩
      exact hK _ _ ⟨_, rfl, below_drewN _ _ _, hR.trans (below_drewN _ _ _), rfl⟩
    refine Ord.each_cons (fun D xs w2 hD hC hP hR hA K hK => ?_) ?_
    · -- 7
      have q3 := Ord.ahead_get _ hA 3 (by decide)
      simp only [HlF] at q3
      have q6 := Ord.ahead_get _ hA 6 (by decide)
      simp only [HlF] at q6
      simp only [q3, q6] at hK
      clear hA
      go_simp
      refine (wlRead_any (HPD.out.below hR) HOF.out HSZ.out).mono ?_
      rintro e w' ⟨u, rfl, hM, hb⟩
      exact hK _ _ ⟨_, rfl, hb, hR.trans (hb.mono hR.size), u, rfl, hM.from hR.size⟩
    refine Ord.each_cons (fun D xs w2 hD hC hP hR hA K hK => ?_) ?_
    · -- 8
      have q7 := Ord.ahead_get _ hA 7 (by decide)
      simp only [HlF] at q7
      clear hA
      go_simp
      exact hK _ _ ⟨_, rfl, Below.refl _ _, hR, q7⟩
    refine Ord.each_cons (fun D xs w2 hD hC hP hR hA K hK => ?_) ?_
    · -- 9
      have q8 := Ord.ahead_get _ hA 8 (by decide)
      simp only [HlF] at q8
      obtain ⟨u8, e8, m8⟩ := q8
      clear hA
      rw [e8] at hK ⊢
      go_simp
      exact hK _ _ ⟨_, rfl, Below.refl _ _, hR, m8⟩
    refine Ord.each_cons (fun D xs w2 hD hC hP hR hA K hK => ?_) ?_
    · -- 10
      have q8 := Ord.ahead_get _ hA 8 (by decide)
      simp only [HlF] at q8
      obtain ⟨u8, e8, m8⟩ := q8
      clear hA
      rw [e8] at hK ⊢
      go_simp
      exact hK _ _ ⟨_, rfl, Below.refl _ _, hR, rfl⟩
    refine Ord.each_cons (fun D xs w2 hD hC hP hR hA K hK => ?_) ?_
    · -- 11
      have q9 := Ord.ahead_get _ hA 9 (by decide)
      simp only [HlF] at q9
      clear hA
      go_simp
      exact hK _ _ ⟨_, rfl, Below.refl _ _, hR, q9⟩
    refine Ord.each_cons (fun D xs w2 hD hC hP hR hA K hK => ?_) ?_
    · -- 12
      have q10 := Ord.ahead_get _ hA 10 (by decide)
      simp only [HlF] at q10
      simp only [q10] at hK
      clear hA
      go_simp
      exact hK _ _ ⟨_, rfl, Below.refl _ _, hR, rfl⟩
    exact Ord.each_nil
  case henda =>
    intro D xs w9 hR hF
    have e0 := (hF 0 (by decide)).2
    have e1 := (hF 1 (by decide)).2
    have e2 := (hF 2 (by decide)).2
    have e3 := (hF 3 (by decide)).2
    have e4 := (hF 4 (by decide)).2
    have e5 := (hF 5 (by decide)).2
    have e6 := (hF 6 (by decide)).2
    have e10 := (hF 10 (by decide)).2
    have e12 := (hF 12 (by decide)).2
    have hO11 := (hF 11 (by decide)).2
    simp only [HlF] at e0 e1 e2 e3 e4 e5 e6 e10 e12 hO11
    rw [e0]
    rw [e1]
    rw [e2]
    rw [e3]
    rw [e4]
    rw [e5]
    rw [e6]
    rw [e10]
    rw [e12]
    clear e0 e1 e2 e3 e4 e5 e6 e10 e12
    clear hF
    generalize xs 7 = x7 at *
    generalize xs 8 = x8 at *
    generalize xs 9 = x9 at *
    generalize xs 11 = x11 at *
    have HM := Lib.hid hO11
    have HB1 := Lib.hid hR
    clear hR hO11
    obtain ⟨gb, cap, hu, hgb, hgl, hc1, hc2⟩ := HM.out.some (by rw [HSC.out.1]; decide)
    rw [HSC.out.1] at hu hc1
    subst hu
    have hcj : ¬ cap = 64 * j := by omega
    have HBT := Lib.hid (hf_bts HM.out.bts HSC.out.1 hc1 hj2)
    have hhl := Wl.hf_length HSC.out.1 hj2
    have HCON := Lib.hid (halfOf_any _ _ w9 HBT.out hhl)
    have hhl2 : (Wl.hfOf (Wl.hf (Wl.eff d (a + 2 + g % (2 * c) / 2)) j)).log.length = 52 := by
      show (List.drop 12 _).length = 52
      rw [List.length_drop, hhl]
    have HHL := Lib.hid hhl2
    clear hhl2 hhl
    generalize hxh : Wl.hfOf (Wl.hf (Wl.eff d (a + 2 + g % (2 * c) / 2)) j) = xh at *
    have HXH := Lib.hid hxh
    clear hxh
    have hle1 : ((64 * j : Nat) : Int) ≤ 128 := by omega
    have hle2 : (64 : Int) ≤ 128 - ((64 * j : Nat) : Int) := by omega
    go_upto_region 4 with (fail)
    go_wp2_with fail
    refine HCON.out.mono ?_
    rintro e w3 ⟨rfl, hb3⟩
    have HB3 := Lib.hid (HB1.out.trans (hb3.mono HB1.out.size))
    have HQ3 := Lib.hid ((HB3.out.block Q1 (lt_of_block HROW.out)).trans HROW.out)
    clear hb3 HCON
    dsimp only
    go_step
    refine wpList_store_row rfl 93 (.tmp 4) (.tmp 31) rfl Q1 _ rfl rfl _ _ HQ3.out (hf_info HHL.out) (by rw [hfC_size, HHL.out]; rfl) (hfC_ones _) ?_
    have hrow10 := setRow_heap _ _ _ (HfC xh) _ _ HQ3.out
    have HE := Lib.hid ((HB0.out.trans (HB3.out.mono HB0.out.size)).trans ((setRow_touch (w := w3) Q1 (HfC xh)).below (base := w.heap.size) (fun i hi => by rw [hi, HQ.out]; exact Nat.le_refl _) (Nat.le_trans HB0.out.size HB3.out.size)))
    generalize w3.setRow Q1 (HfC xh) = w10 at hrow10 HE ⊢
    have HROW10 := Lib.hid hrow10
    clear hrow10
    go_wp2_with fail
    refine bodyPost_ret (v := .tuple #[HfV xh, .int .i64 0]) (results_row_slot Tryz.results54 _ _ Q1 _ _ _ _ _ rfl rfl HROW10.out Tryz.underlying93 rfl (hf_info HHL.out)) rfl ⟨by rw [HXH.out], HE.out⟩
end Go.Proofs.YtafpjcobagofcaaGreat
