/- What an opening finds, by the program. Conditions: the log stands on the device. -/
import Derived.Test.YtafpjcobagofcaaGreatWlLearn
import Derived.Test.YtafpjcobagofcaaGreatWlLast
import Derived.Test.YtafpjcobagofcaaGreatWlApp
import Derived.Test.YtafpjcobagofcaaGreatWlMake
import Derived.Test.YtafpjcobagofcaaGreatWlRdL
namespace Go.Proofs.YtafpjcobagofcaaGreat
open Go.RowKit

/-- What a step of find answers while its order floats. -/
def SkF (L N7 st ep : Nat) (i : Nat) (v : Value) (_ : World) : Prop :=
  match i with
  | 0 => v = .pointer (some ⟨L, 0, none⟩)
  | 1 => v = .pointer (some ⟨L, 0, none⟩)
  | 2 => v = .pointer (some ⟨L, 0, none⟩)
  | 3 => v = .pointer (some ⟨L, 0, none⟩)
  | 4 => v = .int .u64 (st : Int)
  | 5 => v = .pointer (some ⟨L, 0, none⟩)
  | 6 => v = .pointer (some ⟨L, 0, none⟩)
  | 7 => v = .pointer (some ⟨L, 0, none⟩)
  | 8 => v = .pointer (some ⟨L, 3, none⟩)
  | 9 => v = .int .u32 (ep : Int)
  | 10 => v = .int .u32 ((ep : Int) + 1)
  | 11 => v = .pointer (some ⟨N7, 1, none⟩)
  | 13 => v = .pointer (some ⟨N7, 3, none⟩)
  | _ => True

theorem Wl.kn_ok {s : Wl.S} {said : Nat} (hx : Wl.Ex s) (h : said ≤ s.stop) (hs : s.stop ≤ 1000000000000) : Wl.KnOk ⟨s.start, said, s.point, s.epoch⟩ := by
  have h1 := hx.good.low
  have h2 := hx.good.high
  exact ⟨by show s.start < _; omega, by show said < _; omega, hx.pt, hx.ep⟩
/-- How many bytes are left. -/
def SkLen (v : Value) : Nat := match v with
  | .slice _ n _ => n + 1
  | _ => 0
/-- What find answers. -/
def SkA (n B L m1 m2 : Nat) (s : Wl.S) (w : World) (e : Ending) (w' : World) : Prop := ∃ k pl d', k ≤ s.recs.length ∧ s.flushed ≤ Wl.placeOf s k ∧ e = .returned (.int .i64 0) ∧ LogAt w' L (Wl.kn (Wl.cut s k)) B s.at_ s.count pl (.slice none 0 0) false ∧ QO 0 w' pl (Wl.places (Wl.cut s k)) ∧ (∀ i, pl.ownBlock = some i → w.heap.size ≤ i) ∧ PDev w' B m1 m2 d' ∧ Wl.Dv (Wl.cut s k) (Wl.placeOf s k) d' ∧ Wl.Calm n d' ∧ Touch (PutS B m1 m2 L) w w'
set_option maxHeartbeats 6400000 in
set_option maxRecDepth 20000 in
theorem wlFind_any {w : World} {L B m1 m2 n said : Nat} {s : Wl.S} {k0 : Wl.Kn} {d : Dk.Dev} (h : LogAt w L k0 B s.at_ s.count (.slice none 0 0) (.slice none 0 0) false) (hP : PDev w B m1 m2 d) (hC : Wl.Calm n d) (hfit : s.at_ + s.count + 2 ≤ n) (hx : Wl.Ex s) (hD : Wl.Dv s said d) (hsd : said ≤ s.stop) (hep : s.epoch ≤ 1000000) (hs : s.stop ≤ 1000000000000) (hLd : ¬ DS B m1 m2 L) :
    Calls Tryz.prog 25 #[.pointer (some ⟨L, 0, none⟩)] w fun e w' => SkA n B L m1 m2 s w e w' := by
  have hsz := hC.sz
  have HLE := Lib.hid (wlLearn_any h hP hC.off ⟨s.start, said, s.point, s.epoch⟩ (Wl.kn_ok hx hsd hs) (by rw [hsz]; exact hfit) hx.high (hD.effh (i := 0) (by decide)))
  have hcl : Wl.Calm n (Dk.last d) := ⟨hC.off, hC.armed, by rw [Dk.last_size2 hP.own.ok]; exact hC.sz, hC.most⟩
  have HP := Lib.hid hP
  have HC := Lib.hid hC
  have HX := Lib.hid hx
  have HD := Lib.hid hD.last
  have HSD := Lib.hid hsd
  have HEP := Lib.hid hep
  have HS := Lib.hid hs
  have HLD := Lib.hid hLd
  have HFT := Lib.hid hfit
  have HCL := Lib.hid hcl
  have HLT : Hid (L < w.heap.size) := h.lt
  have HE1 : Hid (IntKind.u32.wrap ((s.epoch : Int) + 1) = (s.epoch : Int) + 1) := IntWalk.u32_in _ (by omega)
  clear h hP hC hfit hx hD hsd hep hs hLd hsz hcl
  go_enter Tryz.func25, Tryz.ntmps25
  go_wp2_with fail
  refine HLE.out.mono ?_
  rintro e w1 ⟨rfl, hl1, ht1⟩
  have hp1 := HP.out.keep ht1 (fun i hi e => HLD.out (e ▸ hi))
  have hsy := sync_any hp1
  rw [Dk.sync_fine HC.out.off HC.out.armed, show ((0 : Nat) : Int) = 0 from rfl] at hsy
  have HSY := Lib.hid hsy
  have HL1 := Lib.hid hl1
  have HT1 := Lib.hid ht1
  have c4 := hl1.cell 4 (v := .pointer (some ⟨B, 0, none⟩)) rfl
  clear hl1 ht1 hp1 hsy HLE
  go_wp2_with fail
  refine HSY.out.mono ?_
  rintro e w2 ⟨rfl, hp2, ht2⟩
  have hl2 := HL1.out.touch ht2 HLD.out
  have HTO := Lib.hid (wlTold_ok hl2)
  have HP2 := Lib.hid hp2
  have HT2 := Lib.hid ((HT1.out.mono (T := PutS B m1 m2 L) fun i _ hi => Or.inr hi).trans (ht2.mono fun i _ hi => Or.inl hi))
  clear hp2 ht2 hl2 HSY c4
  go_wp2_with fail
  refine HTO.out.mono ?_
  rintro e w3 ⟨rfl, hl3, ht3⟩
  have hp3 := HP2.out.keep ht3 (fun i hi e => HLD.out (e ▸ hi))
  have HLS := Lib.hid (wlLasting_any hl3 hp3 HCL.out.off HX.out HD.out HSD.out HS.out)
  have HL3 := Lib.hid hl3
  have HP3 := Lib.hid hp3
  have HT3 := Lib.hid (HT2.out.trans (ht3.mono (T := PutS B m1 m2 L) fun i _ hi => Or.inr hi))
  clear hl3 ht3 hp3 HTO
  go_wp2_with fail
  refine HLS.out.mono ?_
  rintro e w4 ⟨E, acc, bv, hend, rfl, hbv, hbo, hb4⟩
  obtain ⟨pb, cb, rfl⟩ := hbv.slice
  have HEND := Lib.hid hend
  have HBV4 := Lib.hid hbv
  have HBO4 := Lib.hid hbo
  have HL4 := Lib.hid (HL3.out.below hb4)
  have HB4 := Lib.hid hb4
  have c0 := HL4.out.cell 0 (v := .int .u64 (s.start : Int)) rfl
  have c1 := HL4.out.cell 1 (v := .int .u64 (said : Int)) rfl
  have c2 := HL4.out.cell 2 (v := .int .u64 (s.point : Int)) rfl
  have c3 := HL4.out.cell 3 (v := .int .u32 (s.epoch : Int)) rfl
  clear hend hbv hbo hb4 HLS
  generalize hbl : (Wl.bytes s).take (E - s.start) = b0 at *
  have HBL := Lib.hid hbl
  obtain ⟨bn, hbn⟩ : ∃ n, n = b0.length := ⟨_, rfl⟩
  rw [← hbn] at HBV4 HBO4 ⊢
  have HBN := Lib.hid hbn
  clear hbl hbn
  go_upto_region 11 with (fail)
  have hb5 := below_new1 w4 (.cells (KnC ⟨s.start, said, s.point, s.epoch⟩) 62)
  have hn7 : (w4.alloc (.cells (KnC ⟨s.start, said, s.point, s.epoch⟩) 62)).heap[w4.heap.size]? = some (.cells (KnC ⟨s.start, said, s.point, s.epoch⟩) 62 (0, 0)) := heap_alloc_last _ _
  have hbg0 : 0 < b0.length → ∀ g, (Value.slice pb bn cb).ownBlock = some g → w3.heap.size ≤ g ∧ g < w4.heap.size := fun h0 g hg => ⟨HBO4.out g hg, HBV4.out.block_lt h0 g hg⟩
  obtain ⟨W, hW⟩ : ∃ W, W = w4.alloc (.cells (KnC ⟨s.start, said, s.point, s.epoch⟩) 62) := ⟨_, rfl⟩
  obtain ⟨N7, hN7d⟩ : ∃ N, N = w4.heap.size := ⟨_, rfl⟩
  rw [← hW, ← hN7d] at hn7
  rw [← hW] at hb5
  rw [← hN7d] at hbg0
  have HLW := Lib.hid (HL4.out.below hb5)
  have HBV := Lib.hid (HBV4.out.below hb5)
  have HBG := Lib.hid hbg0
  have HN7 := Lib.hid hn7
  have HNW := Lib.hid hN7d
  have HNE : Hid (L ≠ N7) := fun e => by have h1 := HL4.out.lt; omega
  have HWE := Lib.hid hW
  show Code.wp _ _ _ _ (w4.alloc (.cells (KnC ⟨s.start, said, s.point, s.epoch⟩) 62))
  rw [← hW, ← hN7d]
  clear hb5 hn7 hbg0 c0 c1 c2 c3 hW hN7d
  refine Ord.walk (SkF L N7 s.start s.epoch) (fun D _ w' => LayR W N7 #[.int .u64 (s.start : Int), .int .u64 (said : Int), .int .u64 (s.point : Int), .int .u32 (s.epoch : Int)] 62 [(12, 1, .int .u64 (s.start : Int)), (14, 3, .int .u32 ((s.epoch : Int) + 1))] D w') (fun _ _ => True)
    (by kernel_rfl) (by kernel_rfl) ?fr ?hfr (fun _ _ _ _ _ h => h) (fun xs => LayR.first HN7.out) ?he ?hend
  case hfr =>
    intro xs
    simp only [Ord.fill, Act.put, List.setIfInBounds_toArray, List.set_cons_zero, List.set_cons_succ]
    rfl
  case he =>
    refine Ord.each_cons (fun D xs w2 hD hC hP hR hA K hK => ?_) ?_
    · -- 0
      clear hA
      go_simp
      exact hK _ _ ⟨_, rfl, trivial, hR.skip rfl, rfl⟩
    refine Ord.each_cons (fun D xs w2 hD hC hP hR hA K hK => ?_) ?_
    · -- 1
      have q0 := Ord.ahead_get _ hA 0 (by decide)
      simp only [SkF] at q0
      simp only [q0] at hK
      clear hA
      go_simp
      exact hK _ _ ⟨_, rfl, trivial, hR.skip rfl, rfl⟩
    refine Ord.each_cons (fun D xs w2 hD hC hP hR hA K hK => ?_) ?_
    · -- 2
      have q1 := Ord.ahead_get _ hA 1 (by decide)
      simp only [SkF] at q1
      simp only [q1] at hK
      clear hA
      go_simp
      exact hK _ _ ⟨_, rfl, trivial, hR.skip rfl, rfl⟩
    refine Ord.each_cons (fun D xs w2 hD hC hP hR hA K hK => ?_) ?_
    · -- 3
      have q2 := Ord.ahead_get _ hA 2 (by decide)
      simp only [SkF] at q2
      simp only [q2] at hK
      clear hA
      go_simp
      exact hK _ _ ⟨_, rfl, trivial, hR.skip rfl, rfl⟩
    refine Ord.each_cons (fun D xs w2 hD hC hP hR hA K hK => ?_) ?_
    · -- 4
      have q3 := Ord.ahead_get _ hA 3 (by decide)
      simp only [SkF] at q3
      simp only [q3] at hK
      clear hA
      have hl := LayR.blk hR HLW.out HNE.out
      have cc := blk_cell hl 0 (v := .int .u64 (s.start : Int)) rfl
      go_simp
      exact hK _ _ ⟨_, rfl, trivial, hR.skip rfl, rfl⟩
    refine Ord.each_cons (fun D xs w2 hD hC hP hR hA K hK => ?_) ?_
    · -- 5
      clear hA
      go_simp
      exact hK _ _ ⟨_, rfl, trivial, hR.skip rfl, rfl⟩
    refine Ord.each_cons (fun D xs w2 hD hC hP hR hA K hK => ?_) ?_
    · -- 6
      have q5 := Ord.ahead_get _ hA 5 (by decide)
      simp only [SkF] at q5
      simp only [q5] at hK
      clear hA
      go_simp
      exact hK _ _ ⟨_, rfl, trivial, hR.skip rfl, rfl⟩
    refine Ord.each_cons (fun D xs w2 hD hC hP hR hA K hK => ?_) ?_
    · -- 7
      have q6 := Ord.ahead_get _ hA 6 (by decide)
      simp only [SkF] at q6
      simp only [q6] at hK
      clear hA
      go_simp
      exact hK _ _ ⟨_, rfl, trivial, hR.skip rfl, rfl⟩
    refine Ord.each_cons (fun D xs w2 hD hC hP hR hA K hK => ?_) ?_
    · -- 8
      have q7 := Ord.ahead_get _ hA 7 (by decide)
      simp only [SkF] at q7
      simp only [q7] at hK
      clear hA
      go_simp
      exact hK _ _ ⟨_, rfl, trivial, hR.skip rfl, rfl⟩
    refine Ord.each_cons (fun D xs w2 hD hC hP hR hA K hK => ?_) ?_
    · -- 9
      have q8 := Ord.ahead_get _ hA 8 (by decide)
      simp only [SkF] at q8
      simp only [q8] at hK
      clear hA
      have hl := LayR.blk hR HLW.out HNE.out
      have cc := blk_cell hl 3 (v := .int .u32 (s.epoch : Int)) rfl
      go_simp
      exact hK _ _ ⟨_, rfl, trivial, hR.skip rfl, rfl⟩
    refine Ord.each_cons (fun D xs w2 hD hC hP hR hA K hK => ?_) ?_
    · -- 10
      have q9 := Ord.ahead_get _ hA 9 (by decide)
      simp only [SkF] at q9
      simp only [q9] at hK
      clear hA
      go_simp
      rw [HE1.out]
      exact hK _ _ ⟨_, rfl, trivial, hR.skip rfl, rfl⟩
    refine Ord.each_cons (fun D xs w2 hD hC hP hR hA K hK => ?_) ?_
    · -- 11
      clear hA
      go_simp
      exact hK _ _ ⟨_, rfl, trivial, hR.skip rfl, rfl⟩
    refine Ord.each_cons (fun D xs w2 hD hC hP hR hA K hK => ?_) ?_
    · -- 12
      have q11 := Ord.ahead_get _ hA 11 (by decide)
      simp only [SkF] at q11
      have q4 := Ord.ahead_get _ hA 4 (by decide)
      simp only [SkF] at q4
      simp only [q11, q4] at hK
      clear hA
      obtain ⟨uu, cu⟩ := hR.there 1 (show 1 < 4 by decide)
      have ff := hR.free 1
      go_simp
      exact hK _ _ ⟨undef, rfl, trivial, hR.put 12 1 _ (by rfl) (by simp) hD, trivial⟩
    refine Ord.each_cons (fun D xs w2 hD hC hP hR hA K hK => ?_) ?_
    · -- 13
      clear hA
      go_simp
      exact hK _ _ ⟨_, rfl, trivial, hR.skip rfl, rfl⟩
    refine Ord.each_cons (fun D xs w2 hD hC hP hR hA K hK => ?_) ?_
    · -- 14
      have q13 := Ord.ahead_get _ hA 13 (by decide)
      simp only [SkF] at q13
      have q10 := Ord.ahead_get _ hA 10 (by decide)
      simp only [SkF] at q10
      simp only [q13, q10] at hK
      clear hA
      obtain ⟨uu, cu⟩ := hR.there 3 (show 3 < 4 by decide)
      have ff := hR.free 3
      go_simp
      exact hK _ _ ⟨undef, rfl, trivial, hR.put 14 3 _ (by rfl) (by simp) hD, trivial⟩
    exact Ord.each_nil
  case hend =>
    intro D xs Z hR hall
    have r0 := (hall 0 (by decide)).2
    have r1 := (hall 1 (by decide)).2
    have r2 := (hall 2 (by decide)).2
    have r3 := (hall 3 (by decide)).2
    have r4 := (hall 4 (by decide)).2
    have r5 := (hall 5 (by decide)).2
    have r6 := (hall 6 (by decide)).2
    have r7 := (hall 7 (by decide)).2
    have r8 := (hall 8 (by decide)).2
    have r9 := (hall 9 (by decide)).2
    have r10 := (hall 10 (by decide)).2
    have r11 := (hall 11 (by decide)).2
    have r13 := (hall 13 (by decide)).2
    simp only [SkF] at r0 r1 r2 r3 r4 r5 r6 r7 r8 r9 r10 r11 r13
    have hrow := hR.row
    rw [lay_all _ (by intro s hs; simp only [List.mem_cons, List.not_mem_nil, or_false] at hs; rcases hs with rfl | rfl; exact (hall 12 (by decide)).1; exact (hall 14 (by decide)).1)] at hrow
    simp only [Lay, if_true, List.setIfInBounds_toArray, List.set_cons_zero, List.set_cons_succ] at hrow
    have hgZ := hR.grown
    simp only [r0, r1, r2, r3, r4, r5, r6, r7, r8, r9, r10, r11, r13]
    clear hR hall r0 r1 r2 r3 r4 r5 r6 r7 r8 r9 r10 r11 r13
    have htz : Touch (· = N7) W Z := .of_grown hgZ rfl
    have hN7 : Z.heap[N7]? = some (.cells (KnC ⟨s.start, s.start, s.point, s.epoch + 1⟩) 62 (0, 0)) := by
      have e : ((s.epoch + 1 : Nat) : Int) = (s.epoch : Int) + 1 := by omega
      show Z.heap[N7]? = some (.cells #[.int .u64 (s.start : Int), .int .u64 (s.start : Int), .int .u64 (s.point : Int), .int .u32 ((s.epoch + 1 : Nat) : Int)] 62 (0, 0))
      rw [e]
      exact hrow
    have hlz : LogAt Z L ⟨s.start, said, s.point, s.epoch⟩ B s.at_ s.count (.slice none 0 0) (.slice none 0 0) false := htz.row HLW.out HNE.out
    have hbg := HBG.out
    have hbz2 := htz.bts HBV.out (fun h0 g hg e => by have := HBG.out h0 g hg; omega)
    have htt : Touch (· = L) w3 Z := (Touch.of_new HB4.out).trans (((Touch.of_new (below_new1 w4 _)).trans (HWE.out ▸ htz)).mono fun i hi e => by have := HNW.out; omega)
    have hsz7 : N7 < Z.heap.size := lt_of_block hN7
    have HST : Hid (N7 < Z.heap.size ∧ Touch (· = L) w3 Z ∧ Bts Z (.slice pb bn cb) b0 ∧ LogAt Z L ⟨s.start, said, s.point, s.epoch⟩ B s.at_ s.count (.slice none 0 0) (.slice none 0 0) false) := ⟨hsz7, htt, hbz2, hlz⟩
    have HN70 := Lib.hid hN7
    clear hsz7 htt hbz2 hlz hN7 hrow htz hgZ hbg
    have HLOOP : Hid (Wl.Fd s E 0 b0 ∧ N7 < Z.heap.size) := ⟨by rw [← HBL.out]; exact Wl.fd_start HX.out (by have h1 := HEND.out.fl; have h2 := HX.out.good.low; omega) HEND.out.st HEND.out.fl, HST.out.1⟩
    go_upto_region 12 with (fail)
    clear HBN HWE HLW HBV HN7 HBV4 HL4 HBO4 HL3
    go_loopw [5] (fun v wr => ∃ (k : Nat) (b : List Nat) (pl : Value), Wl.Fd s E k b ∧ Bts wr v b ∧ (0 < b.length → ∀ g, v.ownBlock = some g → w3.heap.size ≤ g ∧ g < N7) ∧ wr.heap[N7]? = some (.cells (KnC ⟨s.start, Wl.placeOf s k, s.point, s.epoch + 1⟩) 62 (0, 0)) ∧ LogAt wr L ⟨s.start, said, s.point, s.epoch⟩ B s.at_ s.count pl (.slice none 0 0) false ∧ QO 0 wr pl ((Wl.places s).take k) ∧ (∀ i, pl.ownBlock = some i → N7 < i) ∧ Touch (· = L) w3 wr) (fun v _ => SkLen v)
    case atStart => exact ⟨0, b0, .slice none 0 0, HLOOP.out.1, HST.out.2.2.1, HBG.out, by rw [Wl.plc_zero HX.out.good]; exact HN70.out, HST.out.2.2.2, qo_nil _ _, (fun i h => by cases h), HST.out.2.1⟩
    case round =>
      obtain ⟨k, b, pl, hfd, hbv, hbg, hkn, hl, hqo, hpl, ht⟩ := hrel
      obtain ⟨pv, cv, rfl⟩ := hbv.slice
      have hlen := hfd.len HX.out
      have hrm := Wl.room_small HX.out
      have hple := Wl.plc_le HX.out.good hfd.kl
      have hrd := recRead_any (.slice pv b.length cv) b wr hbv (by have := hfd.st; omega)
      have HFD := Lib.hid hfd
      have HBV := Lib.hid hbv
      have HBG1 := Lib.hid hbg
      have HKN := Lib.hid hkn
      have HLL := Lib.hid hl
      have HQO := Lib.hid hqo
      have HPLN := Lib.hid hpl
      have HT := Lib.hid ht
      have HPLE := Lib.hid hple
      have HN7W : Hid (N7 < wr.heap.size) := lt_of_block hkn
      clear hfd hbv hbg hkn hl hqo hpl ht hlen hrm hple
      by_cases hgo : ∃ hk : k < s.recs.length, Wl.placeOf s k + Wl.size s.recs[k] ≤ E
      case neg =>
        obtain ⟨h1, h2⟩ := HFD.out.halt HX.out (fun x hx => by
          obtain ⟨hk, rfl⟩ := List.getElem?_eq_some_iff.1 hx
          exact Nat.lt_of_not_le fun h => hgo ⟨hk, h⟩)
        rw [h1] at hrd
        dsimp only at hrd
        rw [show ((0 : Nat) : Int) = 0 from rfl, show ((4 : Nat) : Int) = 4 from rfl] at hrd
        generalize Lr.zero = x at hrd
        have HRD := Lib.hid hrd
        have HFL := Lib.hid h2
        clear hrd h1 h2 hgo
        generalize b.length = bl at *
        go_wp2_with fail
        refine HRD.out.mono ?_
        rintro e w5 ⟨o, n', uu, c, t, rfl, hO, hb5⟩
        obtain ⟨p1, c1, p2, c2, p3, c3, p4, c4, p5, c5, rfl, rfl, rfl, rfl, rfl⟩ := rec_slices hO.at
        have HB5 := Lib.hid hb5
        clear hO hb5 HRD
        dsimp only
        iterate 16 go_step
        refine wpList_store_rec rfl (.tmp 8) (.tmp 54) rfl w5.heap.size rfl #[.int .i64 x.kind, .int .u64 (x.lsn : Int), .int .u32 (x.epoch : Int), .int .u64 (x.txn : Int), .int .u32 (x.page : Int), .int .u16 (x.off : Int), .slice p1 x.old.length c1, .slice p2 x.new.length c2, .slice p3 x.undo.length c3, .int .u64 (x.prev : Int), .int .u64 (x.next : Int), .bool x.clr, .int .u64 (x.stamp : Int), .slice p4 x.opn.length c4, .slice p5 x.dirt.length c5] rfl _ (heap_alloc_last _ _) rfl rfl (by simp [Value.oneCell']) ?_
        intro Y hrY hgY
        have hbY : Below wr.heap.size wr Y := HB5.out.trans ((below_grown (below_new1 w5 _) hgY (below_new1 w5 _).size (Nat.le_refl _)).mono HB5.out.size)
        obtain ⟨Q8, hQ8⟩ : ∃ Q, Q = w5.heap.size := ⟨_, rfl⟩
        rw [← hQ8] at hrY ⊢
        have HBY := Lib.hid hbY
        have HRY := Lib.hid hrY
        have HKY := Lib.hid ((hbY.block _ HN7W.out).trans HKN.out)
        have HLY := Lib.hid (HLL.out.below hbY)
        have HQY := Lib.hid (HQO.out.below hbY)
        have HTY := Lib.hid (HT.out.trans (Touch.of_new hbY))
        clear hrY hgY hbY hQ8
        have HPY := Lib.hid (HP3.out.keep HTY.out (fun i hi e => HLD.out (e ▸ hi)))
        have HTELL := Lib.hid (wlTell_any HLY.out HPY.out HCL.out ⟨s.start, Wl.placeOf s k, s.point, s.epoch + 1⟩ HFT.out HX.out.high HLD.out)
        go_upto_region 17 with (fail)
        iterate 4 go_step
        refine wpList_load_row rfl 62 (.tmp 7) rfl N7 rfl _ _ _ _ HKY.out Tryz.underlying62 rfl (by kernel_rfl) ?_
        go_wp2_with fail
        refine HTELL.out.mono ?_
        rintro e w7 ⟨rfl, hl7, hp7, ht7⟩
        have HE : Hid (_ ∧ _ ∧ _) := ⟨hl7, hp7, ht7⟩
        clear hl7 hp7 ht7 HTELL
        go_wp2_with fail
        go_ret
        obtain ⟨hl7, hp7, ht7⟩ := HE.out
        have hpb := HPLN.out
        have h34 : w3.heap.size ≤ N7 := by have := HNW.out; have := HB4.out.size; omega
        refine ⟨k, pl, _, HFD.out.kl, HFL.out, rfl, hl7, ?_, fun i hi => ?_, hp7, HEND.out.cut HD.out HX.out HFD.out.kl HFD.out.e, Wl.calm_told HCL.out HP3.out.own.ok (Wl.head_sec _ _ _), (HT3.out.trans (HTY.out.mono fun i _ hi => Or.inr hi)).trans ht7⟩
        · have e : Wl.places (Wl.cut s k) = (Wl.places s).take k := List.map_take
          rw [e]
          refine HQY.out.touch ht7 fun g hg hp => ?_
          have h1 := hpb g hg
          rcases hp with hp | hp
          · have h2 := HP3.out.lt g hp
            omega
          · have h2 := HLT.out
            have h3 := HT3.out.size
            omega
        · have h1 := hpb i hi
          have h3 := HT3.out.size
          omega
      case pos =>
        obtain ⟨hk, hfit⟩ := hgo
        obtain ⟨pp', cc', hv', hcap', -, hpp'⟩ := HBV.out.form
        simp only [Value.slice.injEq, true_and] at hv'
        obtain ⟨rfl, rfl⟩ := hv'
        obtain ⟨gb, off, rfl, -⟩ := hpp' (by
          have h1 := (HFD.out.go HX.out hk rfl hfit).2.2.2.2
          have h2 := Wl.size_pos s.recs[k]
          omega)
        have HCAP := Lib.hid hcap'
        clear hpp' hcap'
        obtain ⟨h1, h2, h3, h4, h5⟩ := HFD.out.go HX.out hk rfl hfit
        have hpa := Wl.places_at HX.out.good hk
        have hpk : (Wl.places s).take (k + 1) = (Wl.places s).take k ++ [Wl.placeOf s k] := by
          rw [← hpa, List.take_succ_eq_append_getElem (by rw [Wl.places_length]; exact hk), List.getD_eq_getElem?_getD, List.getElem?_eq_getElem (by rw [Wl.places_length]; exact hk)]
          rfl
        rw [h1] at hrd
        dsimp only at hrd
        rw [show ((0 : Nat) : Int) = 0 from rfl] at hrd
        generalize s.recs[k] = x at *
        obtain ⟨P, hP⟩ : ∃ P, P = Wl.placeOf s k := ⟨_, rfl⟩
        obtain ⟨sz, hsz⟩ : ∃ z, z = Wl.size x := ⟨_, rfl⟩
        rw [← hP] at h2 h3 hpk
        rw [← hsz] at hrd h3 h4 h5
        have hsp := Wl.size_pos x
        rw [← hsz] at hsp
        have hkn := HKN.out
        rw [← hP] at hkn
        have HRD := Lib.hid hrd
        have HPK := Lib.hid hpk
        have HX2 := Lib.hid h2
        have HX3 := Lib.hid h3
        have HX4 := Lib.hid h4
        have HX5 := Lib.hid h5
        have HSP := Lib.hid hsp
        have HKP0 := Lib.hid hkn
        have HPD := Lib.hid hP
        have HKL : Hid (k < s.recs.length) := hk
        clear hrd h1 h2 h3 h4 h5 hfit hpa hpk hsz hsp hk hkn hP
        generalize hbl : b.length = bl at *
        have HBLN := Lib.hid hbl
        clear hbl
        go_wp2_with fail
        refine HRD.out.mono ?_
        rintro e w5 ⟨o, n', uu, c, t, rfl, hO, hb5⟩
        obtain ⟨p1, c1, p2, c2, p3, c3, p4, c4, p5, c5, rfl, rfl, rfl, rfl, rfl⟩ := rec_slices hO.at
        have HB5 := Lib.hid hb5
        clear hO hb5 HRD
        dsimp only
        iterate 16 go_step
        refine wpList_store_rec rfl (.tmp 8) (.tmp 54) rfl w5.heap.size rfl #[.int .i64 x.kind, .int .u64 (x.lsn : Int), .int .u32 (x.epoch : Int), .int .u64 (x.txn : Int), .int .u32 (x.page : Int), .int .u16 (x.off : Int), .slice p1 x.old.length c1, .slice p2 x.new.length c2, .slice p3 x.undo.length c3, .int .u64 (x.prev : Int), .int .u64 (x.next : Int), .bool x.clr, .int .u64 (x.stamp : Int), .slice p4 x.opn.length c4, .slice p5 x.dirt.length c5] rfl _ (heap_alloc_last _ _) rfl rfl (by simp [Value.oneCell']) ?_
        intro Y hrY hgY
        have hbY : Below wr.heap.size wr Y := HB5.out.trans ((below_grown (below_new1 w5 _) hgY (below_new1 w5 _).size (Nat.le_refl _)).mono HB5.out.size)
        obtain ⟨Q8, hQ8⟩ : ∃ Q, Q = w5.heap.size := ⟨_, rfl⟩
        rw [← hQ8] at hrY ⊢
        have HBY := Lib.hid hbY
        have HRY := Lib.hid hrY
        have HKY := Lib.hid ((hbY.block _ HN7W.out).trans HKN.out)
        have HLY := Lib.hid (HLL.out.below hbY)
        have HQY := Lib.hid (HQO.out.below hbY)
        have HTY := Lib.hid (HT.out.trans (Touch.of_new hbY))
        clear hrY hgY hbY hQ8
        have HKP := Lib.hid ((HBY.out.block _ HN7W.out).trans HKP0.out)
        have HNP : Hid (pl.ownBlock ≠ some L) := fun h => by have h1 := HPLN.out L h; have h2 := HLT.out; have h3 := HT3.out.size; have h4 := HB4.out.size; have h5 := HNW.out; omega
        have HNS : Hid (¬ (N7 = L ∨ pl.ownBlock = some N7)) := fun h => h.elim (fun h => HNE.out h.symm) fun h => absurd (HPLN.out N7 h) (Nat.lt_irrefl _)
        have HTL : Hid (∀ i, (i = L ∨ pl.ownBlock = some i) → i < Y.heap.size) := fun i hi => hi.elim (fun h => by rw [h]; exact HLY.out.lt) fun h => HQY.out.lt i h
        have u1 := (rec_cell HRY.out).2.1
        rw [HX2.out] at u1
        have d1 := blk_cell HKP.out 1 (v := .int .u64 (P : Int)) rfl
        have hPP : ((P : Int) != (P : Int)) = false := by simp
        go_upto_region 14 with (fail)
        clear u1 d1 hPP
        refine Ord.walk (PlF L N7 P Y.heap.size pl) (fun D xs w' => PlR Y L ⟨s.start, said, s.point, s.epoch⟩ B s.at_ s.count pl (.slice none 0 0) ((Wl.places s).take k) P D xs w') (Touch (fun i => i = L ∨ pl.ownBlock = some i))
          (by kernel_rfl) (by kernel_rfl) ?fr2 ?hfr2 (fun i v w w' hb h => plF_later HTL.out i v w w' hb h) (fun xs => PlR.first HQY.out HLY.out) ?he2 ?hend2
        case hfr2 =>
          intro xs
          simp only [Ord.fill, Act.put, List.setIfInBounds_toArray, List.set_cons_zero, List.set_cons_succ]
          rfl
        case he2 =>
          refine Ord.each_cons (fun D xs w2 hD hC hP hR hA K hK => ?_) ?_
          · -- 0
            clear hA
            go_simp
            exact hK _ _ ⟨_, rfl, Touch.refl _ _, PlR.skip hR 0 (by decide) (by decide) _ (Below.refl _ _), rfl⟩
          refine Ord.each_cons (fun D xs w2 hD hC hP hR hA K hK => ?_) ?_
          · -- 1
            clear hA
            go_simp
            exact hK _ _ ⟨_, rfl, Touch.refl _ _, PlR.skip hR 1 (by decide) (by decide) _ (Below.refl _ _), rfl⟩
          refine Ord.each_cons (fun D xs w2 hD hC hP hR hA K hK => ?_) ?_
          · -- 2
            have q1 := Ord.ahead_get _ hA 1 (by decide)
            simp only [PlF] at q1
            simp only [q1] at hK
            clear hA
            go_simp
            exact hK _ _ ⟨_, rfl, Touch.refl _ _, PlR.skip hR 2 (by decide) (by decide) _ (Below.refl _ _), rfl⟩
          refine Ord.each_cons (fun D xs w2 hD hC hP hR hA K hK => ?_) ?_
          · -- 3
            have q2 := Ord.ahead_get _ hA 2 (by decide)
            simp only [PlF] at q2
            simp only [q2] at hK
            clear hA
            go_simp
            exact hK _ _ ⟨_, rfl, Touch.refl _ _, PlR.skip hR 3 (by decide) (by decide) _ (Below.refl _ _), rfl⟩
          refine Ord.each_cons (fun D xs w2 hD hC hP hR hA K hK => ?_) ?_
          · -- 4
            have q3 := Ord.ahead_get _ hA 3 (by decide)
            simp only [PlF] at q3
            simp only [q3] at hK
            clear hA
            have h8 : D 8 = false := by
              cases hx : D 8 with
              | false => rfl
              | true => exact absurd (Ord.closed_at hC 8 4 rfl hx) (by rw [hD]; decide)
            have h11 : D 11 = false := by
              cases hx : D 11 with
              | false => rfl
              | true => exact absurd (Ord.closed_at hC 11 8 rfl hx) (by rw [h8]; decide)
            have cc := PlR.at_ hR h11
            have cc := LogAt.cell cc 7 (v := pl) rfl
            go_simp
            exact hK _ _ ⟨_, rfl, Touch.refl _ _, PlR.skip hR 4 (by decide) (by decide) _ (Below.refl _ _), rfl⟩
          refine Ord.each_cons (fun D xs w2 hD hC hP hR hA K hK => ?_) ?_
          · -- 5
            clear hA
            go_simp
            exact hK _ _ ⟨_, rfl, Touch.refl _ _, PlR.skip hR 5 (by decide) (by decide) _ (Below.refl _ _), rfl⟩
          refine Ord.each_cons (fun D xs w2 hD hC hP hR hA K hK => ?_) ?_
          · -- 6
            have q5 := Ord.ahead_get _ hA 5 (by decide)
            simp only [PlF] at q5
            simp only [q5] at hK
            clear hA
            have cc := hR.t.row HKP.out HNS.out
            have cc := blk_cell cc 1 (v := .int .u64 (P : Int)) rfl
            go_simp
            exact hK _ _ ⟨_, rfl, Touch.refl _ _, PlR.skip hR 6 (by decide) (by decide) _ (Below.refl _ _), rfl⟩
          refine Ord.each_cons (fun D xs w2 hD hC hP hR hA K hK => ?_) ?_
          · -- 7
            have q6 := Ord.ahead_get _ hA 6 (by decide)
            simp only [PlF] at q6
            simp only [q6] at hK
            clear hA
            go_simp
            exact hK _ _ ⟨_, rfl, Touch.of_new (below_new1 _ _), PlR.skip hR 7 (by decide) (by decide) _ (below_new1 _ _), _, rfl, new_cell _ _ _, hR.t.size⟩
          refine Ord.each_cons (fun D xs w2 hD hC hP hR hA K hK => ?_) ?_
          · -- 8
            have q4 := Ord.ahead_get _ hA 4 (by decide)
            simp only [PlF] at q4
            have q7 := Ord.ahead_get _ hA 7 (by decide)
            simp only [PlF] at q7
            obtain ⟨gx, q7, hgx, -⟩ := q7
            clear hA
            have h11 : D 11 = false := by
              cases hx : D 11 with
              | false => rfl
              | true => exact absurd (Ord.closed_at hC 11 8 rfl hx) (by rw [hD]; decide)
            simp only [Region.wanted, if_true]
            refine wp_append_Qo (.tmp 70) (.tmp 73) rfl q4 (hR.q hD) P gx q7 hgx (Nat.le_trans (by rw [List.length_take]; exact Nat.min_le_right _ _) (Nat.le_trans (Wl.places_few HX.out) (by decide))) (Nat.zero_le _) fun v' w' hq hg hat => ?_
            have ht : Touch (fun i => pl.ownBlock = some i) w2 w' := Touch.grew hg fun g hg => hg
            exact hK _ _ ⟨_, rfl, ht.mono (fun i _ hi => Or.inr hi), PlR.app hR hD h11 HNP.out hq ht hat, trivial⟩
          refine Ord.each_cons (fun D xs w2 hD hC hP hR hA K hK => ?_) ?_
          · -- 9
            have q0 := Ord.ahead_get _ hA 0 (by decide)
            simp only [PlF] at q0
            simp only [q0] at hK
            clear hA
            go_simp
            exact hK _ _ ⟨_, rfl, Touch.refl _ _, PlR.skip hR 9 (by decide) (by decide) _ (Below.refl _ _), rfl⟩
          refine Ord.each_cons (fun D xs w2 hD hC hP hR hA K hK => ?_) ?_
          · -- 10
            have q9 := Ord.ahead_get _ hA 9 (by decide)
            simp only [PlF] at q9
            simp only [q9] at hK
            clear hA
            go_simp
            exact hK _ _ ⟨_, rfl, Touch.refl _ _, PlR.skip hR 10 (by decide) (by decide) _ (Below.refl _ _), rfl⟩
          refine Ord.each_cons (fun D xs w2 hD hC hP hR hA K hK => ?_) ?_
          · -- 11
            have q10 := Ord.ahead_get _ hA 10 (by decide)
            simp only [PlF] at q10
            simp only [q10] at hK
            clear hA
            have h8 := hP { on := 8, ground := .data } (by simp) rfl
            obtain ⟨p8, c8, e8⟩ := (hR.r h8).1.qu.slice
            obtain ⟨n8, hn8⟩ : ∃ n, n = ((Wl.places s).take k ++ [P]).length := ⟨_, rfl⟩
            rw [← hn8] at e8
            have hput := PlR.put hR h8 hD HNP.out (HTL.out L (Or.inl rfl)) undef
            rw [e8] at hput
            simp only [e8] at hK ⊢
            clear e8 hn8
            have ff := blk_free (hR.at_ hD) 7
            have cc := LogAt.cell (hR.at_ hD) 7 (v := pl) rfl
            go_simp
            exact hK _ _ ⟨undef, rfl, .set L 7 _ (Or.inl rfl), hput, trivial⟩
          exact Ord.each_nil
        case hend2 =>
          intro D xs Z2 hR hall
          have h8 := (hall 8 (by decide)).1
          have h11 := (hall 11 (by decide)).1
          obtain ⟨hq, hat⟩ := hR.r h8
          have hl := hR.put_ h11
          have ht := hR.t
          clear hR hall
          have hrow := ht.row HKP.out HNS.out
          generalize xs 8 = v8 at *
          have hv8 : ∀ i, v8.ownBlock = some i → N7 < i := fun i hi => by
            rcases hat with h3 | ⟨j, h3, h4⟩
            · exact HPLN.out i (h3 ▸ hi)
            · rw [hi] at h3
              have h5 := Option.some.inj h3
              have h6 := HBY.out.size
              have h7 := HN7W.out
              omega
          have hS : Touch (fun i => i = L ∨ pl.ownBlock = some i) w3 Z2 := (HTY.out.mono (T := fun i => i = L ∨ pl.ownBlock = some i) fun i _ hi => Or.inl hi).trans ht
          have htw : Touch (· = L) w3 Z2 := hS.mono fun i hi h => h.elim id fun h => by have h1 := HPLN.out i h; have h2 := HNW.out; have h3 := HB4.out.size; omega
          have hbv2 : Bts Z2 (.slice (some ⟨gb, off, none⟩) bl cv) b := ht.bts (HBV.out.below HBY.out) (fun h0 g hg e => by
            have h1 := HBG1.out (by rw [← HBLN.out]; exact h0) g hg
            rcases e with e | e
            · have h2 := HLT.out
              have h3 := HT3.out.size
              omega
            · have h2 := HPLN.out g e
              omega)
          obtain ⟨P2, hP2⟩ : ∃ P2, P2 = Wl.placeOf s (k + 1) := ⟨_, rfl⟩
          have hx3 := HX3.out
          rw [← hP2] at hx3
          have hst := HX4.out.st
          have hxe := HX4.out.e
          rw [← hP2] at hxe
          have hss := HS.out
          have f7 := blk_free hrow 1
          have s7 : (Z2.setCell ⟨N7, 1, none⟩ (.int .u64 (P2 : Int))).heap[N7]? = some (.cells (KnC ⟨s.start, P2, s.point, s.epoch + 1⟩) 62 (0, 0)) := blk_set (i := 1) hrow _
          have d1 := blk_cell hrow 1 (v := .int .u64 (P : Int)) rfl
          have t7 : Touch (· = N7) Z2 (Z2.setCell ⟨N7, 1, none⟩ (.int .u64 (P2 : Int))) := .set N7 1 _ rfl
          have hbv3 := t7.bts hbv2 (fun h0 g hg e => by have h1 := (HBG1.out (by rw [← HBLN.out]; exact h0) g hg).2; omega)
          have hl3 := hl.touch t7 HNE.out
          have hq3 := hq.touch t7 (fun i hi e => by have := hv8 i hi; omega)
          have ht3 : Touch (· = L) w3 (Z2.setCell ⟨N7, 1, none⟩ (.int .u64 (P2 : Int))) := ((htw.mono (T := fun i => i = L ∨ i = N7) fun i _ hi => Or.inl hi).trans (t7.mono fun i _ hi => Or.inr hi)).mono fun i hi h => h.elim id fun h => by have h2 := HNW.out; have h3 := HB4.out.size; omega
          have hb0 : Bts (Z2.setCell ⟨N7, 1, none⟩ (.int .u64 (P2 : Int))) (.slice (some ⟨gb, off, none⟩) b.length cv) b := by rw [HBLN.out]; exact hbv3
          have hdr := hb0.drop sz (by rw [HBLN.out]; exact HX5.out)
          rw [HBLN.out] at hdr
          rw [← HPK.out] at hq3
          have HDR := Lib.hid hdr
          have HL3 := Lib.hid hl3
          have HQ3 := Lib.hid hq3
          have HT3b := Lib.hid ht3
          have HS7 := Lib.hid s7
          have HV8 := Lib.hid hv8
          have HP2 := Lib.hid hP2
          have hw1 : IntKind.u64.wrap (sz : Int) = (sz : Int) := IntWalk.u64_in _ (by omega)
          have hw2 : IntKind.u64.wrap ((P : Int) + (sz : Int)) = (P2 : Int) := by rw [IntWalk.u64_in _ (by omega)]; omega
          have hsb : (sz : Int) ≤ (bl : Int) := by have := HX5.out; omega
          have hsb2 : sz ≤ bl := HX5.out
          clear hS htw hbv2 hx3 hst hxe hss s7 t7 hbv3 hl3 hq3 ht3 hb0 hdr hq hl ht hat hrow hv8 hP2 h8 h11
          by_cases hcm : cv = sz
          · have HBZ : Hid (b.drop sz = []) := List.drop_eq_nil_of_le (by rw [HBLN.out]; have := HCAP.out; omega)
            have hz0 : bl = sz := by have h1 := HCAP.out; have h2 := HX5.out; omega
            subst hz0
            subst hcm
    
            go_wp2_with fail
            go_roundw
            case rel => exact ⟨k + 1, b.drop cv, v8, HX4.out, by rw [HBZ.out]; exact bts_zero _ _ _ _ (by omega) (by have := HCAP.out; omega), (fun h0 => by rw [HBZ.out] at h0; exact absurd h0 (by decide)), by rw [← HP2.out]; exact HS7.out, HL3.out, HQ3.out, HV8.out, HT3b.out⟩
            case measure => have h1 := HSP.out; have h2 := HX5.out; simp only [SkLen]; omega
          · go_wp2_with fail
            go_roundw
            case rel => exact ⟨k + 1, b.drop sz, v8, HX4.out, HDR.out, (fun h0 g hg => HBG1.out (by have h1 := HSP.out; have h2 := HX5.out; omega) g hg), by rw [← HP2.out]; exact HS7.out, HL3.out, HQ3.out, HV8.out, HT3b.out⟩
            case measure => have h1 := HSP.out; have h2 := HX5.out; simp only [SkLen]; omega
end Go.Proofs.YtafpjcobagofcaaGreat
