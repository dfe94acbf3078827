/- A log that is none, and a device that is armed. Conditions: none. Open, by the program. Conditions: the log stands on the device. Calls on no log and no device. Conditions: none. Master, by the program. Conditions: the log stands on its device; what is asked may be asked. The program's log is one as the laws ask for it. Conditions: none. -/
import Derived.Test.YtafpjcobagofcaaGreatWlPL
import Derived.Test.YtafpjcobagofcaaGreatWlSeek
import Derived.Test.YtafpjcobagofcaaGreatWlRdL
import Derived.Test.YtafpjcobagofcaaGreatWlTell
import Derived.Test.YtafpjcobagofcaaGreatWlDel
import Derived.Test.YtafpjcobagofcaaGreatWlMake
import Derived.Test.YtafpjcobagofcaaGreatWlApp
import Derived.Test.YtafpjcobagofcaaGreatWlDev
import Derived.Test.YtafpjcobagofcaaGreatWlFlush
namespace Go.Proofs.YtafpjcobagofcaaGreat
open Go.RowKit

theorem wl_arm {U V : Nat → Prop} {w : World} {B L : Nat} {d : Dk.Dev} {s : Wl.S} (n : Int) (h : WlPL U V w B L d s) :
    Calls Tryz.prog 21 #[.pointer (some ⟨B, 0, none⟩), .int .i64 n] w fun e w' => e = .returned (.int .i64 ((Dk.arm d n).2 : Nat)) ∧ ∃ U', WlPL U' V w' B L (Dk.arm d n).1 s ∧ Touch U w w' ∧ Grew U U' w := by
  obtain ⟨m1, m2, pl, wa, h1, rfl, h3, rfl, h5, said, hsd, hd⟩ := h
  refine (arm_any h3 n).mono fun e w' ⟨he, hP, ht⟩ => ⟨he, DS B m1 m2, ⟨m1, m2, pl, wa, h1.keep ht (fun i hi hd => h5 i hd hi), rfl, hP, rfl, h5, said, hsd, hd.same hP.own.ok ?_ ?_⟩, ht, fun i hi => Or.inl hi⟩
  · unfold Dk.arm; split <;> first | rfl | (split <;> rfl)
  · unfold Dk.arm; split <;> first | rfl | (split <;> rfl)
section
variable (w : World)
theorem wl_flush_nil : Calls Tryz.prog 15 #[.pointer none] w fun e w' => e = .returned (.int .i64 1) ∧ Below w.heap.size w w' := by
  have hrd := wlReady_nil w
  go_enter Tryz.func15, Tryz.ntmps15
  go_wp2_with (go_at_call 26; refine hrd.mono ?_; rintro e w' ⟨rfl, rfl⟩)
  go_ret
  exact ⟨rfl, Below.refl _ _⟩
theorem wl_master_nil (a p : Nat) : Calls Tryz.prog 16 #[.pointer none, .int .u64 (a : Int), .int .u64 (p : Int)] w fun e w' => e = .returned (.int .i64 1) ∧ Below w.heap.size w w' := by
  have hrd := wlReady_nil w
  go_enter Tryz.func16, Tryz.ntmps16
  go_wp2_with (go_at_call 26; refine hrd.mono ?_; rintro e w' ⟨rfl, rfl⟩)
  go_ret
  exact ⟨rfl, Below.refl _ _⟩
theorem wl_start_nil : Calls Tryz.prog 17 #[.pointer none] w fun e w' => e = .returned (.int .u64 0) ∧ Below w.heap.size w w' := (wlStart_nil w).mono fun _ _ ⟨h, e⟩ => ⟨h, by rw [← e]; exact Below.refl _ _⟩
theorem wl_flushed_nil : Calls Tryz.prog 18 #[.pointer none] w fun e w' => e = .returned (.int .u64 0) ∧ Below w.heap.size w w' := (wlFlushed_nil w).mono fun _ _ ⟨h, e⟩ => ⟨h, by rw [← e]; exact Below.refl _ _⟩
theorem wl_point_nil : Calls Tryz.prog 19 #[.pointer none] w fun e w' => e = .returned (.int .u64 0) ∧ Below w.heap.size w w' := (wlPoint_nil w).mono fun _ _ ⟨h, e⟩ => ⟨h, by rw [← e]; exact Below.refl _ _⟩
theorem wl_epoch_nil : Calls Tryz.prog 13 #[.pointer none] w fun e w' => e = .returned (.int .u32 0) ∧ Below w.heap.size w w' := (wlEpoch_nil w).mono fun _ _ ⟨h, e⟩ => ⟨h, by rw [← e]; exact Below.refl _ _⟩
theorem wl_end_nil : Calls Tryz.prog 14 #[.pointer none] w fun e w' => e = .returned (.int .u64 0) ∧ Below w.heap.size w w' := (wlEnd_nil w).mono fun _ _ ⟨h, e⟩ => ⟨h, by rw [← e]; exact Below.refl _ _⟩
theorem wl_left_nil : Calls Tryz.prog 20 #[.pointer none] w fun e w' => e = .returned (.int .i64 0) ∧ Below w.heap.size w w' := (wlLeft_nil w).mono fun _ _ ⟨h, e⟩ => ⟨h, by rw [← e]; exact Below.refl _ _⟩
end
end Go.Proofs.YtafpjcobagofcaaGreat

namespace Go.Proofs.YtafpjcobagofcaaGreat
open Go.RowKit

set_option maxHeartbeats 3200000 in
set_option maxRecDepth 20000 in
theorem wlLaid_find {w : World} {B m1 m2 a c : Nat} {d : Dk.Dev} (hP : PDev w B m1 m2 d) (h1 : 16 ≤ c) (h2 : c ≤ 8192) (h3 : a + c + 2 ≤ Dk.size d) (R : Nat → World → Prop)
    (hf : ∀ w1 L, Below w.heap.size w w1 → w.heap.size ≤ L → LogAt w1 L ⟨0, 0, 0, 0⟩ B a c (.slice none 0 0) (.slice none 0 0) false → Calls Tryz.prog 25 #[.pointer (some ⟨L, 0, none⟩)] w1 fun e w' => e = .returned (.int .i64 0) ∧ R L w') :
    Calls Tryz.prog 23 #[.pointer (some ⟨B, 0, none⟩), .int .i64 (a : Int), .int .i64 (c : Int), .func (.func 25) #[] #[]] w fun e w' => ∃ L, e = .returned (.tuple #[.pointer (some ⟨L, 0, none⟩), .int .i64 0]) ∧ R L w' := by
  have hse := (sectors_any hP).mono (R' := fun e w' => e = .returned (.int .i64 (Dk.size d : Nat)) ∧ w = w') fun _ _ ⟨h1, h2⟩ => ⟨h1, h2.symm⟩
  have h4 := hP.own.one
  have h5 := hP.own.size
  obtain ⟨N, hN⟩ : ∃ N, N = Dk.size d := ⟨_, rfl⟩
  rw [← hN] at hse h3 h4 h5
  have hN0 : ¬ (N : Int) = 0 := by omega
  have HSE := Lib.hid hse
  have e1 : ¬ (c : Int) < 16 := by omega
  have e2 : ¬ (8192 : Int) < (c : Int) := by omega
  have e3 : ¬ (a : Int) < 0 := by omega
  have e4 : ¬ (N : Int) - 2 - (c : Int) < (a : Int) := by omega
  have w1 := IntWalk.wrap64_in ((N : Int) - 2) (by omega)
  have w2 := IntWalk.wrap64_in ((N : Int) - 2 - (c : Int)) (by omega)
  have HF := Lib.hid hf
  clear hP hN hse h1 h2 h3 h4 h5 hf
  go_enter Tryz.func23, Tryz.ntmps23
  go_upto_region 7 with (go_at_call 40; refine HSE.out.mono ?_; rintro e w' ⟨rfl, rfl⟩)
  have hb := below_new1 w (.cells (LogC ⟨0, 0, 0, 0⟩ B a c (.slice none 0 0) (.slice none 0 0) false) 64)
  have hl : LogAt (w.alloc (.cells (LogC ⟨0, 0, 0, 0⟩ B a c (.slice none 0 0) (.slice none 0 0) false) 64)) w.heap.size ⟨0, 0, 0, 0⟩ B a c (.slice none 0 0) (.slice none 0 0) false := heap_alloc_last _ _
  have hc := HF.out _ _ hb (Nat.le_refl _) hl
  have HCC : Hid (Calls Tryz.prog 25 #[.pointer (some ⟨w.heap.size, 0, none⟩)] (w.alloc (.cells #[.int .u64 0, .int .u64 0, .int .u64 0, .int .u32 0, .pointer (some ⟨B, 0, none⟩), .int .i64 (a : Int), .int .i64 (c : Int), .slice none 0 0, .slice none 0 0, .bool false] 64)) fun e w' => e = .returned (.int .i64 0) ∧ R w.heap.size w') := hc
  clear hb hl hc e1 e2 e3 e4 w1 w2 hN0
  generalize (w.alloc (.cells #[.int .u64 0, .int .u64 0, .int .u64 0, .int .u32 0, .pointer (some ⟨B, 0, none⟩), .int .i64 (a : Int), .int .i64 (c : Int), .slice none 0 0, .slice none 0 0, .bool false] 64)) = W at *
  generalize w.heap.size = L at *
  go_wp2_with fail
  refine HCC.out.mono ?_
  rintro e w3 ⟨rfl, hr⟩
  have HR := Lib.hid hr
  clear hr HCC
  go_wp2_with fail
  go_ret2
  exact ⟨_, rfl, HR.out⟩
theorem Wl.waits_cut {s : Wl.S} (h : Wl.Good s) {k : Nat} (hk : k ≤ s.recs.length) : Wl.waits (Wl.cut s k) = [] := by
  refine List.eq_nil_of_length_eq_zero ?_
  rw [Wl.waits_length (Wl.good_cut h hk)]
  exact Nat.sub_self _
/-- What is left in memory behind an opening. -/
def OpR (n B m1 m2 : Nat) (s : Wl.S) (w : World) (L : Nat) (w' : World) : Prop := w.heap.size ≤ L ∧ ∃ k pl d', k ≤ s.recs.length ∧ s.flushed ≤ Wl.placeOf s k ∧ LogAt w' L (Wl.kn (Wl.cut s k)) B s.at_ s.count pl (.slice none 0 0) false ∧ QO 0 w' pl (Wl.places (Wl.cut s k)) ∧ (∀ i, pl.ownBlock = some i → w.heap.size ≤ i ∧ i ≠ L) ∧ PDev w' B m1 m2 d' ∧ Wl.Dv (Wl.cut s k) (Wl.placeOf s k) d' ∧ Wl.Calm n d' ∧ Touch (PutS B m1 m2 L) w w'
/-- What Open answers. -/
def OpA (U : Nat → Prop) (n B : Nat) (s : Wl.S) (w : World) (e : Ending) (w' : World) : Prop :=
    ∃ k L U' V' d', k ≤ s.recs.length ∧ s.flushed ≤ Wl.placeOf s k ∧ e = .returned (.tuple #[.pointer (some ⟨L, 0, none⟩), .int .i64 0]) ∧ WlPL U' V' w' B L d' (Wl.cut s k) ∧ Wl.Calm n d' ∧ Touch U w w' ∧ Grew U U' w ∧ (∀ i, V' i → w.heap.size ≤ i)
set_option maxHeartbeats 3200000 in
set_option maxRecDepth 20000 in
theorem wl_open {U : Nat → Prop} {w : World} {B n : Nat} {d : Dk.Dev} {s : Wl.S} (h : WlPD U w B d) (hC : Wl.Calm n d) (hf : Wl.Fits n s.at_ s.count) (hH : Wl.Hd d s) (hep : s.epoch ≤ 1000000) (hs : s.stop ≤ 1000000000000) :
    Calls Tryz.prog 9 #[.pointer (some ⟨B, 0, none⟩), .int .i64 (s.at_ : Int), .int .i64 (s.count : Int)] w fun e w' => OpA U n B s w e w' := by
  obtain ⟨m1, m2, hP, rfl⟩ := h
  obtain ⟨hx, said, hsd, hD⟩ := hH
  have hfit : s.at_ + s.count + 2 ≤ n := by
    have := hf.2.2.2
    omega
  have hl := wlLaid_find hP (a := s.at_) (c := s.count) hx.low hx.high (by rw [hC.sz]; exact hfit) (OpR n B m1 m2 s w)
    (fun w1 L hb hL hlog => (wlFind_any hlog (hP.below hb) hC hfit hx hD hsd hep hs (fun hd => by have := hP.lt L hd; omega)).mono fun e w' ⟨k, pl, d', h1, h2, h3, h4, h5, h6, h7, h8, h9, h10⟩ =>
      ⟨h3, hL, k, pl, d', h1, h2, h4, h5, fun i hi => ⟨Nat.le_trans hb.size (h6 i hi), fun e => by have h11 := h6 i hi; have h12 := hlog.lt; omega⟩, h7, h8, h9, (Touch.of_new hb).trans h10⟩)
  have HL := Lib.hid hl
  have HP := Lib.hid hP
  have HX := Lib.hid hx
  have HEP := Lib.hid hep
  clear hP hx hsd hD hl hf hfit hC hep hs
  go_enter Tryz.func9, Tryz.ntmps9
  go_wp2_with fail
  refine HL.out.mono ?_
  rintro e w1 ⟨L, rfl, hr⟩
  have HR := Lib.hid hr
  clear hr HL
  go_wp2_with fail
  go_ret2
  obtain ⟨hL, k, pl, d', h1, h2, h4, h5, h6, h7, h8, h9, h10⟩ := HR.out
  have hV : ∀ i, LogV L pl (.slice none 0 0) i → w.heap.size ≤ i := fun i hv => by
    rcases hv with hv | hv | hv
    · omega
    · exact (h6 i hv).1
    · cases hv
  refine ⟨k, L, DS B m1 m2, LogV L pl (.slice none 0 0), d', h1, h2, rfl, ⟨m1, m2, pl, .slice none 0 0, ⟨Wl.ex_cut HX.out h1 HEP.out, h4, h5, ?_, fun h => (h6 L h).2 rfl, (fun h => by cases h), fun i _ h => by cases h⟩, rfl, h7, rfl, fun i hi hv => ?_, Wl.placeOf s k, Nat.le_refl _, h8⟩, h9, h10.mono fun i hi hs => ?_, fun i hi => Or.inl hi, hV⟩
  · rw [Wl.waits_cut HX.out.good h1]; exact own_nil _ _
  · have h11 := HP.out.lt i hi
    have h12 := hV i hv
    omega
  · rcases hs with hs | hs
    · exact hs
    · omega
set_option maxHeartbeats 3200000 in
set_option maxRecDepth 20000 in
theorem wl_open_bad {U : Nat → Prop} {w : World} {B n : Nat} {d : Dk.Dev} (a c : Int) (h : WlPD U w B d) (hC : Wl.Calm n d) (ha : I64' a) (hc : I64' c) (hf : ¬ Wl.Fits n a c) :
    Calls Tryz.prog 9 #[.pointer (some ⟨B, 0, none⟩), .int .i64 a, .int .i64 c] w fun e w' => e = .returned (.tuple #[.pointer none, .int .i64 2]) ∧ ∃ U' d', WlPD U' w' B d' ∧ Wl.Calm n d' ∧ Touch U w w' ∧ Grew U U' w := by
  have HPD0 := Lib.hid h
  obtain ⟨m1, m2, hP, rfl⟩ := h
  have HL := Lib.hid (wlLaid_bad hP ha hc (by rw [hC.sz]; exact hf) (.func (.func 25) #[] #[]))
  have HC := Lib.hid hC
  clear hP hC ha hc hf
  go_enter Tryz.func9, Tryz.ntmps9
  go_wp2_with fail
  refine HL.out.mono ?_
  rintro e w1 ⟨rfl, rfl⟩
  go_wp2_with fail
  go_ret2
  exact ⟨rfl, _, _, HPD0.out, HC.out, .refl _ _, fun i hi => Or.inl hi⟩
end Go.Proofs.YtafpjcobagofcaaGreat

namespace Go.Proofs.YtafpjcobagofcaaGreat
open Go.RowKit

theorem dkNone_nil (w : World) : Calls Tryz.prog 37 #[.pointer none] w fun e w' => e = .returned (.bool true) ∧ w = w' := by
  go_enter Tryz.func37, Tryz.ntmps37
  go_wp2_with fail
  go_ret
  exact ⟨rfl, rfl⟩
theorem dkSectors_nil (w : World) : Calls Tryz.prog 40 #[.pointer none] w fun e w' => e = .returned (.int .i64 0) ∧ w = w' := by
  have hn := dkNone_nil w
  go_enter Tryz.func40, Tryz.ntmps40
  go_wp2_with (go_at_call 37; refine hn.mono ?_; rintro e w' ⟨rfl, rfl⟩)
  go_ret
  exact ⟨rfl, rfl⟩
theorem wlLaid_nil (a c : Int) (f : Value) (w : World) : Calls Tryz.prog 23 #[.pointer none, .int .i64 a, .int .i64 c, f] w fun e w' => e = .returned (.tuple #[.pointer none, .int .i64 1]) ∧ w = w' := by
  have hs := dkSectors_nil w
  go_enter Tryz.func23, Tryz.ntmps23
  go_wp2_with (go_at_call 40; refine hs.mono ?_; rintro e w' ⟨rfl, rfl⟩)
  go_ret2
  exact ⟨rfl, rfl⟩
theorem wl_make_nil (a c : Int) (w : World) : Calls Tryz.prog 8 #[.pointer none, .int .i64 a, .int .i64 c] w fun e w' => e = .returned (.tuple #[.pointer none, .int .i64 1]) ∧ Below w.heap.size w w' := by
  have HL := Lib.hid (wlLaid_nil a c (.func (.func 24) #[] #[]) w)
  go_enter Tryz.func8, Tryz.ntmps8
  go_wp2_with fail
  refine HL.out.mono ?_
  rintro e w' ⟨rfl, rfl⟩
  go_wp2_with fail
  go_ret2
  exact ⟨rfl, Below.refl _ _⟩
theorem wl_open_nil (a c : Int) (w : World) : Calls Tryz.prog 9 #[.pointer none, .int .i64 a, .int .i64 c] w fun e w' => e = .returned (.tuple #[.pointer none, .int .i64 1]) ∧ Below w.heap.size w w' := by
  have HL := Lib.hid (wlLaid_nil a c (.func (.func 25) #[] #[]) w)
  go_enter Tryz.func9, Tryz.ntmps9
  go_wp2_with fail
  refine HL.out.mono ?_
  rintro e w' ⟨rfl, rfl⟩
  go_wp2_with fail
  go_ret2
  exact ⟨rfl, Below.refl _ _⟩
theorem wl_append_nil (x : Lr.R) (o n u c t : Value) (w : World) : Calls Tryz.prog 10 #[.pointer none, RecV x o n u c t] w fun e w' => e = .returned (.tuple #[.int .u64 0, .int .i64 1]) ∧ Below w.heap.size w w' := by
  obtain ⟨W, hW⟩ : ∃ W, W = w.alloc (robj x o n u c t) := ⟨_, rfl⟩
  have hb := below_new1 w (robj x o n u c t)
  rw [← hW] at hb
  have HB := Lib.hid hb
  have hrd := wlReady_nil W
  clear hb
  unfold robj at hW
  go_enter Tryz.func10, Tryz.ntmps10
  go_upto_region 1 with (fail)
  rw [← hW]
  clear hW
  go_wp2_with (go_at_call 26; refine hrd.mono ?_; rintro e w' ⟨rfl, rfl⟩)
  go_ret2
  exact ⟨rfl, HB.out⟩
theorem wl_read_nil (p : Nat) (w : World) : Calls Tryz.prog 12 #[.pointer none, .int .u64 (p : Int)] w fun e w' => e = .returned (.tuple #[RecV Lr.zero (.slice none 0 0) (.slice none 0 0) (.slice none 0 0) (.slice none 0 0) (.slice none 0 0), .int .u64 0, .int .i64 1]) ∧ Below w.heap.size w w' := by
  obtain ⟨W, hW⟩ : ∃ W, W = w.alloc zobj := ⟨_, rfl⟩
  have hb := below_new1 w zobj
  have hrow := zblk w
  rw [← hW] at hb hrow
  obtain ⟨Q, hQ⟩ : ∃ Q, Q = w.heap.size := ⟨_, rfl⟩
  rw [← hQ] at hrow
  have HQ := Lib.hid hQ
  have HB := Lib.hid hb
  have HROW := Lib.hid hrow
  have hrd := wlReady_nil W
  clear hb hrow
  unfold zobj at hW
  go_enter Tryz.func12, Tryz.ntmps12
  go_upto_region 1 with (fail)
  rw [← hW, ← hQ]
  clear hW hQ
  go_upto_region 3 with (go_at_call 26; refine hrd.mono ?_; rintro e w' ⟨rfl, rfl⟩)
  iterate 7 go_step
  refine wpList_store_rec rfl (.tmp 4) (.tmp 19) rfl Q rfl #[.int .i64 0, .int .u64 0, .int .u32 0, .int .u64 0, .int .u32 0, .int .u16 0, .slice none 0 0, .slice none 0 0, .slice none 0 0, .int .u64 0, .int .u64 0, .bool false, .int .u64 0, .slice none 0 0, .slice none 0 0] rfl _ HROW.out rfl rfl (by simp [Value.oneCell']) ?_
  intro Y hrY hgY
  have HST : Hid (_ ∧ _) := ⟨hrY, hgY⟩
  clear hrY hgY hrd
  go_wp2_with fail
  refine bodyPost_ret (v := .tuple #[.agg #[.int .i64 0, .int .u64 0, .int .u32 0, .int .u64 0, .int .u32 0, .int .u16 0, .slice none 0 0, .slice none 0 0, .slice none 0 0, .int .u64 0, .int .u64 0, .bool false, .int .u64 0, .slice none 0 0, .slice none 0 0], .int .u64 0, .int .i64 1]) (results_row_slots rfl _ _ Q _ _ _ _ _ _ rfl rfl rfl HST.out.1 Tryz.underlying40 rfl (rec_info rfl)) rfl ?_
  exact ⟨rfl, below_grown HB.out HST.out.2 HB.out.size (Nat.le_of_eq HQ.out.symm)⟩
end Go.Proofs.YtafpjcobagofcaaGreat

namespace Go.Proofs.YtafpjcobagofcaaGreat
open Go.RowKit

theorem Wl.plc_lt {s : Wl.S} (h : Wl.Good s) {i k : Nat} (hik : i < k) (hk : k ≤ s.recs.length) : Wl.placeOf s i < Wl.placeOf s k := by
  have h1 := (Wl.plc_next h (k := i) (by omega)).1
  have h2 := Wl.size_pos (s.recs[i]'(by omega))
  have h3 := Wl.plc_mono h (j := i + 1) (k := k) hik hk
  omega
theorem Wl.plc_inj {s : Wl.S} (h : Wl.Good s) {i k : Nat} (hi : i ≤ s.recs.length) (hk : k ≤ s.recs.length) (e : Wl.placeOf s i = Wl.placeOf s k) : i = k := by
  rcases Nat.lt_trichotomy i k with h1 | h1 | h1
  · have := Wl.plc_lt h h1 hk
    omega
  · exact h1
  · have := Wl.plc_lt h h1 hi
    omega
/-- Where the search stands when the place is held, or is the end. -/
theorem Wl.spot_at {s : Wl.S} (h : Wl.Good s) {a i : Nat} (hs : Spot (Wl.places s) a i) (hm : a = s.stop ∨ ∃ x ∈ s.recs, x.lsn = a) : i ≤ s.recs.length ∧ Wl.placeOf s i = a ∧ (¬ (i < (Wl.places s).length ∧ (Wl.places s).getD i 0 = a) → a = s.stop) := by
  have hl := Wl.places_length s
  have hi : i ≤ s.recs.length := by rw [← hl]; exact hs.1
  have hk : ∃ k, k ≤ s.recs.length ∧ Wl.placeOf s k = a := by
    rcases hm with e | ⟨x, hx, e⟩
    · exact ⟨_, Nat.le_refl _, by rw [Wl.plc_all]; exact e.symm⟩
    · obtain ⟨j, hj, rfl⟩ := List.getElem_of_mem hx
      exact ⟨j, Nat.le_of_lt hj, by rw [← e]; exact (Wl.plc_next h hj).2.symm⟩
  obtain ⟨k, hk, he⟩ := hk
  have hik : i = k := by
    rcases Nat.lt_trichotomy i k with h1 | h1 | h1
    · have h2 := hs.2.2 i (Nat.le_refl _) (by omega)
      rw [Wl.places_at h (by omega)] at h2
      have h3 := Wl.plc_lt h h1 hk
      omega
    · exact h1
    · have h2 := hs.2.1 k h1
      rw [Wl.places_at h (by omega)] at h2
      omega
  subst hik
  refine ⟨hi, he, fun hn => ?_⟩
  rcases Nat.lt_or_ge i s.recs.length with h1 | h1
  · exact absurd ⟨by omega, by rw [Wl.places_at h h1]; exact he⟩ hn
  · obtain rfl : i = s.recs.length := by omega
    rw [← he, Wl.plc_all]
theorem Wl.waits_master {s : Wl.S} {a p : Nat} (hb : Wl.bytes (Wl.master s a p) = (Wl.bytes s).drop (a - s.start)) (h1 : s.start ≤ a) (h2 : a ≤ s.flushed) : Wl.waits (Wl.master s a p) = Wl.waits s := by
  unfold Wl.waits
  rw [hb, List.drop_drop]
  show (Wl.bytes s).drop (a - s.start + (s.flushed - a)) = _
  rw [show a - s.start + (s.flushed - a) = s.flushed - s.start by omega]
/-- A place that is held is found. -/
theorem Wl.held_at {s : Wl.S} (h : Wl.Good s) {p i : Nat} (hs : Spot (Wl.places s) p i) (hm : ∃ x ∈ s.recs, x.lsn = p) : i < (Wl.places s).length ∧ (Wl.places s).getD i 0 = p := by
  obtain ⟨x, hx, e⟩ := hm
  obtain ⟨j, hj, rfl⟩ := List.getElem_of_mem hx
  rw [(Wl.plc_next h hj).2] at e
  obtain ⟨h1, h2, -⟩ := Wl.spot_at h hs (Or.inr ⟨_, hx, by rw [(Wl.plc_next h hj).2]; exact e⟩)
  have h3 := Wl.plc_inj h h1 (Nat.le_of_lt hj) (by rw [h2, e])
  subst h3
  exact ⟨by rw [Wl.places_length]; exact hj, by rw [Wl.places_at h hj]; exact e⟩
/-- What Master answers. -/
def MsA (U V : Nat → Prop) (n B L : Nat) (s : Wl.S) (a p : Nat) (w : World) (e : Ending) (w' : World) : Prop :=
    e = .returned (.int .i64 0) ∧ ∃ U' V' d', WlPL U' V' w' B L d' (Wl.master s a p) ∧ Wl.Calm n d' ∧ Touch (Both U V) w w' ∧ Grew U U' w ∧ Grew V V' w
set_option maxHeartbeats 6400000 in
set_option maxRecDepth 20000 in
theorem wl_master {U V : Nat → Prop} {w : World} {B L n : Nat} {d : Dk.Dev} {s : Wl.S} (a p : Nat) (h : WlPL U V w B L d s) (hC : Wl.Calm n d) (hm : Wl.MayMaster s a p) (hs : s.stop ≤ 1000000000000) :
    Calls Tryz.prog 16 #[.pointer (some ⟨L, 0, none⟩), .int .u64 (a : Int), .int .u64 (p : Int)] w fun e w' => MsA U V n B L s a p w e w' := by
  obtain ⟨m1, m2, pl, wa, hM, rfl, hp, rfl, haw, said, hsd, hd⟩ := h
  obtain ⟨pp, pc, rfl⟩ := hM.qpl.qu.slice
  obtain ⟨pw, wc, rfl⟩ := wa_slice hM.owa
  have HMD := Lib.hid (Wl.master_dv hd hM.ex hs hm)
  have c7 := hM.log.cell 7 (v := .slice pp (Wl.places s).length pc) rfl
  have c1 := hM.log.cell 1 (v := .int .u64 (s.flushed : Int)) rfl
  have hsr := fun (w1 : World) (hb : Below w.heap.size w w1) (x : Nat) => search_any (w := w1) (hM.qpl.below hb).qu x (Wl.places_rise hM.ex.good) (Nat.le_trans (Wl.places_few hM.ex) (by decide))
  have HSE1 := Lib.hid (hsr w (Below.refl _ _) a)
  have HSE2 := Lib.hid (fun w1 hb => hsr w1 hb p)
  have he := hM.end_
  have hend := wlEnd_any hM.log (by show s.flushed + _ < _; rw [he]; omega)
  rw [show (Wl.kn s).flushed + (Wl.waits s).length = s.stop from he] at hend
  have HEND := Lib.hid hend
  have hrd := wlReady_any hM.log
  have HLM := Lib.hid hM
  have HX : Hid (Wl.Ex s) := hM.ex
  have HP := Lib.hid hp
  have HC := Lib.hid hC
  have HS := Lib.hid hs
  have HAW := Lib.hid haw
  have HMM := Lib.hid hm
  have HLD : Hid (¬ DS B m1 m2 L) := fun h => haw L h (Or.inl rfl)
  have HFT : Hid (s.at_ + s.count + 2 ≤ n) := by show _ ≤ _; rw [← hC.sz]; exact hd.fits
  have hle : ¬ (s.flushed : Int) < (a : Int) := by have := hm.2.1; omega
  clear hM hp hd hsd haw hC hm hs hsr he hend
  go_enter Tryz.func16, Tryz.ntmps16
  go_wp2_with (go_at_call 26; refine hrd.mono ?_; rintro e w' ⟨rfl, rfl⟩)
  refine HSE1.out.mono ?_
  rintro e w' ⟨⟨i, b1, hsp, hb1, rfl⟩, rfl⟩
  have HSP := Lib.hid (Wl.spot_at HX.out.good hsp HMM.out.2.2.1)
  clear HSE1 hrd
  cases b1 with
  | false =>
    have hst := HSP.out.2.2 (fun h => by have := hb1.2 h; cases this)
    have hsb : ((a : Int) != (s.stop : Int)) = false := by rw [hst]; simp
    clear hsp hb1 hst
    go_wp2_with fail
    refine HEND.out.mono ?_
    rintro e w1 ⟨rfl, q, rfl⟩
    have HB1 : Hid (Below w.heap.size w (w.drewN q)) := below_drewN _ w q
    have HL1 : Hid (LogAt (w.drewN q) L (Wl.kn s) B s.at_ s.count (.slice pp (Wl.places s).length pc) (.slice pw (Wl.waits s).length wc) false) := HLM.out.log.drew q
    clear c1 c7 HEND
    generalize w.drewN q = w1 at *
    have c7 := HL1.out.cell 7 (v := .slice pp (Wl.places s).length pc) rfl
    go_wp2_with fail
    clear hsb
    refine (HSE2.out w1 HB1.out).mono ?_
    rintro e w' ⟨⟨i2, b2, hsp2, hb2, rfl⟩, rfl⟩
    have c0 := HL1.out.cell 0 (v := .int .u64 (s.start : Int)) rfl
    have c1 := HL1.out.cell 1 (v := .int .u64 (s.flushed : Int)) rfl
    have c2 := HL1.out.cell 2 (v := .int .u64 (s.point : Int)) rfl
    have c3 := HL1.out.cell 3 (v := .int .u32 (s.epoch : Int)) rfl
    have hbW := HB1.out.trans ((below_new1 w1 (.cells (KnC ⟨a, s.flushed, p, s.epoch⟩) 62)).mono HB1.out.size)
    have HTELL := Lib.hid (wlTell_any (HL1.out.below (below_new1 w1 (.cells (KnC ⟨a, s.flushed, p, s.epoch⟩) 62))) (HP.out.below hbW) HC.out ⟨a, s.flushed, p, s.epoch⟩ HFT.out HX.out.high HLD.out)
    have HBW := Lib.hid hbW
    clear hbW
    by_cases hp0 : p = 0
    · have hpz : ((p : Int) != 0) = false := by rw [hp0]; rfl
      clear hsp2 hb2 hp0
      go_wp2_with fail
      refine HTELL.out.mono ?_
      rintro e w3 ⟨rfl, hl3, hp3, ht3⟩
      have hT3 : Touch (PutS B m1 m2 L) w w3 := (Touch.of_new HBW.out).trans ht3
      have hplL : (Value.slice pp (Wl.places s).length pc).ownBlock ≠ some L := HLM.out.npl
      have hq3 := HLM.out.qpl.keep hT3 (fun g hg hh => by
        rcases hh with hh | hh
        · exact HAW.out g hh (Or.inr (Or.inl hg))
        · exact hplL (by rw [hg, hh]))
      have HDEL := Lib.hid (delete_any hq3 i (by rw [Wl.places_length]; exact HSP.out.1))
      have HL3 := Lib.hid hl3
      have HP3 := Lib.hid hp3
      have HT3 := Lib.hid hT3
      have d7 := hl3.cell 7 (v := .slice pp (Wl.places s).length pc) rfl
      clear hl3 hp3 ht3 hT3 hq3 HTELL hplL
      go_wp2_with fail
      refine HDEL.out.mono ?_
      rintro e w4 ⟨v', rfl, hq4, hown, ht4⟩
      obtain ⟨p4, c4, rfl⟩ := hq4.qu.slice
      obtain ⟨n4, hn4⟩ : ∃ n, n = ((Wl.places s).drop i).length := ⟨_, rfl⟩
      rw [← hn4] at hq4 hown ⊢
      have hl4 := HL3.out.touch ht4 HLM.out.npl
      have f7 := blk_free hl4 7
      have e7 := LogAt.cell hl4 7 (v := .slice pp (Wl.places s).length pc) rfl
      have s7 : LogAt (w4.setCell ⟨L, 7, none⟩ (.slice p4 n4 c4)) L (Wl.kn (Wl.master s a p)) B s.at_ s.count (.slice p4 n4 c4) (.slice pw (Wl.waits s).length wc) false := blk_set (i := 7) hl4 _
      have t7 : Touch (· = L) w4 (w4.setCell ⟨L, 7, none⟩ (.slice p4 n4 c4)) := .set L 7 _ rfl
      have HE : Hid (_ ∧ _ ∧ _ ∧ _ ∧ _) := ⟨hq4, hown, ht4, s7, t7⟩
      clear hq4 hown ht4 s7 t7 hl4 hn4 HDEL d7
      go_wp2_with fail
      go_ret
      obtain ⟨hq4, hown, ht4, s7, t7⟩ := HE.out
      obtain ⟨hx2, hd2, kk, hk1, hk2, hk3, hk4⟩ := HMD.out
      have hki : kk = i := Wl.plc_inj HX.out.good hk1 HSP.out.1 (by rw [hk2, HSP.out.2.1])
      have hpls : Wl.places (Wl.master s a p) = (Wl.places s).drop i := by
        show (Wl.master s a p).recs.map _ = _
        rw [hk3, hki, List.map_drop]
        rfl
      have hnL : (Value.slice p4 n4 c4).ownBlock ≠ some L := fun h => HLM.out.npl (hown ▸ h)
      have hTT : Touch (fun x => PutS B m1 m2 L x ∨ (Value.slice pp (Wl.places s).length pc).ownBlock = some x) w (w4.setCell ⟨L, 7, none⟩ (.slice p4 n4 c4)) := ((HT3.out.mono fun x _ hx => Or.inl hx).trans (ht4.mono fun x _ hx => Or.inr hx)).trans (t7.mono fun x _ hx => Or.inl (Or.inr hx))
      have hV : ∀ x, LogV L (.slice p4 n4 c4) (.slice pw (Wl.waits s).length wc) x → LogV L (.slice pp (Wl.places s).length pc) (.slice pw (Wl.waits s).length wc) x := fun x hx => by
        rcases hx with hx | hx | hx
        · exact Or.inl hx
        · exact Or.inr (Or.inl (hown ▸ hx))
        · exact Or.inr (Or.inr hx)
      refine ⟨rfl, DS B m1 m2, LogV L (.slice p4 n4 c4) (.slice pw (Wl.waits s).length wc), _, ⟨m1, m2, .slice p4 n4 c4, .slice pw (Wl.waits s).length wc, ⟨hx2, s7, ?_, ?_, hnL, HLM.out.nwa, fun x h1 h2 => HLM.out.apart x (hown ▸ h1) h2⟩, rfl, ?_, rfl, fun x h1 h2 => HAW.out x h1 (hV x h2), s.flushed, HX.out.good.high, hd2⟩, Wl.calm_told HC.out HP.out.own.ok (Wl.head_sec _ _ _), hTT.mono fun x _ hx => ?_, fun x hx => Or.inl hx, fun x hx => Or.inl (hV x hx)⟩
      · rw [hpls]
        exact hq4.touch t7 fun x hx e => hnL (e ▸ hx)
      · rw [Wl.waits_master hk4 HMM.out.1 HMM.out.2.1]
        exact HLM.out.owa.keep hTT fun x hx h => by
          rcases h with (h | h) | h
          · exact HAW.out x h (Or.inr (Or.inr hx))
          · exact HLM.out.nwa (h ▸ hx)
          · exact HLM.out.apart x h hx
      · exact (HP3.out.keep ht4 fun x hx h => HAW.out x hx (Or.inr (Or.inl h))).keep t7 fun x hx e => HLD.out (e ▸ hx)
      · rcases hx with (hx | hx) | hx
        · exact Or.inl hx
        · exact Or.inr (Or.inl hx)
        · exact Or.inr (Or.inr (Or.inl hx))
    · have hpz : ((p : Int) != 0) = true := by simp; omega
      obtain ⟨q1, q2, q3⟩ := HMM.out.2.2.2.resolve_left hp0
      have hb2t := hb2.2 (Wl.held_at HX.out.good hsp2 q3)
      subst hb2t
      have hpa : ¬ (p : Int) < (a : Int) := by omega
      have hpf : ¬ (s.flushed : Int) ≤ (p : Int) := by omega
      clear hsp2 hb2 hp0 q1 q2 q3
      go_wp2_with fail
      refine HTELL.out.mono ?_
      rintro e w3 ⟨rfl, hl3, hp3, ht3⟩
      have hT3 : Touch (PutS B m1 m2 L) w w3 := (Touch.of_new HBW.out).trans ht3
      have hplL : (Value.slice pp (Wl.places s).length pc).ownBlock ≠ some L := HLM.out.npl
      have hq3 := HLM.out.qpl.keep hT3 (fun g hg hh => by
        rcases hh with hh | hh
        · exact HAW.out g hh (Or.inr (Or.inl hg))
        · exact hplL (by rw [hg, hh]))
      have HDEL := Lib.hid (delete_any hq3 i (by rw [Wl.places_length]; exact HSP.out.1))
      have HL3 := Lib.hid hl3
      have HP3 := Lib.hid hp3
      have HT3 := Lib.hid hT3
      have d7 := hl3.cell 7 (v := .slice pp (Wl.places s).length pc) rfl
      clear hl3 hp3 ht3 hT3 hq3 HTELL hplL
      go_wp2_with fail
      refine HDEL.out.mono ?_
      rintro e w4 ⟨v', rfl, hq4, hown, ht4⟩
      obtain ⟨p4, c4, rfl⟩ := hq4.qu.slice
      obtain ⟨n4, hn4⟩ : ∃ n, n = ((Wl.places s).drop i).length := ⟨_, rfl⟩
      rw [← hn4] at hq4 hown ⊢
      have hl4 := HL3.out.touch ht4 HLM.out.npl
      have f7 := blk_free hl4 7
      have e7 := LogAt.cell hl4 7 (v := .slice pp (Wl.places s).length pc) rfl
      have s7 : LogAt (w4.setCell ⟨L, 7, none⟩ (.slice p4 n4 c4)) L (Wl.kn (Wl.master s a p)) B s.at_ s.count (.slice p4 n4 c4) (.slice pw (Wl.waits s).length wc) false := blk_set (i := 7) hl4 _
      have t7 : Touch (· = L) w4 (w4.setCell ⟨L, 7, none⟩ (.slice p4 n4 c4)) := .set L 7 _ rfl
      have HE : Hid (_ ∧ _ ∧ _ ∧ _ ∧ _) := ⟨hq4, hown, ht4, s7, t7⟩
      clear hq4 hown ht4 s7 t7 hl4 hn4 HDEL d7
      go_wp2_with fail
      go_ret
      obtain ⟨hq4, hown, ht4, s7, t7⟩ := HE.out
      obtain ⟨hx2, hd2, kk, hk1, hk2, hk3, hk4⟩ := HMD.out
      have hki : kk = i := Wl.plc_inj HX.out.good hk1 HSP.out.1 (by rw [hk2, HSP.out.2.1])
      have hpls : Wl.places (Wl.master s a p) = (Wl.places s).drop i := by
        show (Wl.master s a p).recs.map _ = _
        rw [hk3, hki, List.map_drop]
        rfl
      have hnL : (Value.slice p4 n4 c4).ownBlock ≠ some L := fun h => HLM.out.npl (hown ▸ h)
      have hTT : Touch (fun x => PutS B m1 m2 L x ∨ (Value.slice pp (Wl.places s).length pc).ownBlock = some x) w (w4.setCell ⟨L, 7, none⟩ (.slice p4 n4 c4)) := ((HT3.out.mono fun x _ hx => Or.inl hx).trans (ht4.mono fun x _ hx => Or.inr hx)).trans (t7.mono fun x _ hx => Or.inl (Or.inr hx))
      have hV : ∀ x, LogV L (.slice p4 n4 c4) (.slice pw (Wl.waits s).length wc) x → LogV L (.slice pp (Wl.places s).length pc) (.slice pw (Wl.waits s).length wc) x := fun x hx => by
        rcases hx with hx | hx | hx
        · exact Or.inl hx
        · exact Or.inr (Or.inl (hown ▸ hx))
        · exact Or.inr (Or.inr hx)
      refine ⟨rfl, DS B m1 m2, LogV L (.slice p4 n4 c4) (.slice pw (Wl.waits s).length wc), _, ⟨m1, m2, .slice p4 n4 c4, .slice pw (Wl.waits s).length wc, ⟨hx2, s7, ?_, ?_, hnL, HLM.out.nwa, fun x h1 h2 => HLM.out.apart x (hown ▸ h1) h2⟩, rfl, ?_, rfl, fun x h1 h2 => HAW.out x h1 (hV x h2), s.flushed, HX.out.good.high, hd2⟩, Wl.calm_told HC.out HP.out.own.ok (Wl.head_sec _ _ _), hTT.mono fun x _ hx => ?_, fun x hx => Or.inl hx, fun x hx => Or.inl (hV x hx)⟩
      · rw [hpls]
        exact hq4.touch t7 fun x hx e => hnL (e ▸ hx)
      · rw [Wl.waits_master hk4 HMM.out.1 HMM.out.2.1]
        exact HLM.out.owa.keep hTT fun x hx h => by
          rcases h with (h | h) | h
          · exact HAW.out x h (Or.inr (Or.inr hx))
          · exact HLM.out.nwa (h ▸ hx)
          · exact HLM.out.apart x h hx
      · exact (HP3.out.keep ht4 fun x hx h => HAW.out x hx (Or.inr (Or.inl h))).keep t7 fun x hx e => HLD.out (e ▸ hx)
      · rcases hx with (hx | hx) | hx
        · exact Or.inl hx
        · exact Or.inr (Or.inl hx)
        · exact Or.inr (Or.inr (Or.inl hx))
  | true =>
    clear hsp hb1 c1 HEND
    have HB1 := Lib.hid (Below.refl w.heap.size w)
    have HL1 := Lib.hid HLM.out.log
    have c1 := HL1.out.cell 1 (v := .int .u64 (s.flushed : Int)) rfl
    go_wp2_with fail
    clear c1
    refine (HSE2.out w HB1.out).mono ?_
    rintro e w' ⟨⟨i2, b2, hsp2, hb2, rfl⟩, rfl⟩
    have c0 := HL1.out.cell 0 (v := .int .u64 (s.start : Int)) rfl
    have c1 := HL1.out.cell 1 (v := .int .u64 (s.flushed : Int)) rfl
    have c2 := HL1.out.cell 2 (v := .int .u64 (s.point : Int)) rfl
    have c3 := HL1.out.cell 3 (v := .int .u32 (s.epoch : Int)) rfl
    have hbW := HB1.out.trans ((below_new1 w (.cells (KnC ⟨a, s.flushed, p, s.epoch⟩) 62)).mono HB1.out.size)
    have HTELL := Lib.hid (wlTell_any (HL1.out.below (below_new1 w (.cells (KnC ⟨a, s.flushed, p, s.epoch⟩) 62))) (HP.out.below hbW) HC.out ⟨a, s.flushed, p, s.epoch⟩ HFT.out HX.out.high HLD.out)
    have HBW := Lib.hid hbW
    clear hbW
    by_cases hp0 : p = 0
    · have hpz : ((p : Int) != 0) = false := by rw [hp0]; rfl
      clear hsp2 hb2 hp0
      go_wp2_with fail
      refine HTELL.out.mono ?_
      rintro e w3 ⟨rfl, hl3, hp3, ht3⟩
      have hT3 : Touch (PutS B m1 m2 L) w w3 := (Touch.of_new HBW.out).trans ht3
      have hplL : (Value.slice pp (Wl.places s).length pc).ownBlock ≠ some L := HLM.out.npl
      have hq3 := HLM.out.qpl.keep hT3 (fun g hg hh => by
        rcases hh with hh | hh
        · exact HAW.out g hh (Or.inr (Or.inl hg))
        · exact hplL (by rw [hg, hh]))
      have HDEL := Lib.hid (delete_any hq3 i (by rw [Wl.places_length]; exact HSP.out.1))
      have HL3 := Lib.hid hl3
      have HP3 := Lib.hid hp3
      have HT3 := Lib.hid hT3
      have d7 := hl3.cell 7 (v := .slice pp (Wl.places s).length pc) rfl
      clear hl3 hp3 ht3 hT3 hq3 HTELL hplL
      go_wp2_with fail
      refine HDEL.out.mono ?_
      rintro e w4 ⟨v', rfl, hq4, hown, ht4⟩
      obtain ⟨p4, c4, rfl⟩ := hq4.qu.slice
      obtain ⟨n4, hn4⟩ : ∃ n, n = ((Wl.places s).drop i).length := ⟨_, rfl⟩
      rw [← hn4] at hq4 hown ⊢
      have hl4 := HL3.out.touch ht4 HLM.out.npl
      have f7 := blk_free hl4 7
      have e7 := LogAt.cell hl4 7 (v := .slice pp (Wl.places s).length pc) rfl
      have s7 : LogAt (w4.setCell ⟨L, 7, none⟩ (.slice p4 n4 c4)) L (Wl.kn (Wl.master s a p)) B s.at_ s.count (.slice p4 n4 c4) (.slice pw (Wl.waits s).length wc) false := blk_set (i := 7) hl4 _
      have t7 : Touch (· = L) w4 (w4.setCell ⟨L, 7, none⟩ (.slice p4 n4 c4)) := .set L 7 _ rfl
      have HE : Hid (_ ∧ _ ∧ _ ∧ _ ∧ _) := ⟨hq4, hown, ht4, s7, t7⟩
      clear hq4 hown ht4 s7 t7 hl4 hn4 HDEL d7
      go_wp2_with fail
      go_ret
      obtain ⟨hq4, hown, ht4, s7, t7⟩ := HE.out
      obtain ⟨hx2, hd2, kk, hk1, hk2, hk3, hk4⟩ := HMD.out
      have hki : kk = i := Wl.plc_inj HX.out.good hk1 HSP.out.1 (by rw [hk2, HSP.out.2.1])
      have hpls : Wl.places (Wl.master s a p) = (Wl.places s).drop i := by
        show (Wl.master s a p).recs.map _ = _
        rw [hk3, hki, List.map_drop]
        rfl
      have hnL : (Value.slice p4 n4 c4).ownBlock ≠ some L := fun h => HLM.out.npl (hown ▸ h)
      have hTT : Touch (fun x => PutS B m1 m2 L x ∨ (Value.slice pp (Wl.places s).length pc).ownBlock = some x) w (w4.setCell ⟨L, 7, none⟩ (.slice p4 n4 c4)) := ((HT3.out.mono fun x _ hx => Or.inl hx).trans (ht4.mono fun x _ hx => Or.inr hx)).trans (t7.mono fun x _ hx => Or.inl (Or.inr hx))
      have hV : ∀ x, LogV L (.slice p4 n4 c4) (.slice pw (Wl.waits s).length wc) x → LogV L (.slice pp (Wl.places s).length pc) (.slice pw (Wl.waits s).length wc) x := fun x hx => by
        rcases hx with hx | hx | hx
        · exact Or.inl hx
        · exact Or.inr (Or.inl (hown ▸ hx))
        · exact Or.inr (Or.inr hx)
      refine ⟨rfl, DS B m1 m2, LogV L (.slice p4 n4 c4) (.slice pw (Wl.waits s).length wc), _, ⟨m1, m2, .slice p4 n4 c4, .slice pw (Wl.waits s).length wc, ⟨hx2, s7, ?_, ?_, hnL, HLM.out.nwa, fun x h1 h2 => HLM.out.apart x (hown ▸ h1) h2⟩, rfl, ?_, rfl, fun x h1 h2 => HAW.out x h1 (hV x h2), s.flushed, HX.out.good.high, hd2⟩, Wl.calm_told HC.out HP.out.own.ok (Wl.head_sec _ _ _), hTT.mono fun x _ hx => ?_, fun x hx => Or.inl hx, fun x hx => Or.inl (hV x hx)⟩
      · rw [hpls]
        exact hq4.touch t7 fun x hx e => hnL (e ▸ hx)
      · rw [Wl.waits_master hk4 HMM.out.1 HMM.out.2.1]
        exact HLM.out.owa.keep hTT fun x hx h => by
          rcases h with (h | h) | h
          · exact HAW.out x h (Or.inr (Or.inr hx))
          · exact HLM.out.nwa (h ▸ hx)
          · exact HLM.out.apart x h hx
      · exact (HP3.out.keep ht4 fun x hx h => HAW.out x hx (Or.inr (Or.inl h))).keep t7 fun x hx e => HLD.out (e ▸ hx)
      · rcases hx with (hx | hx) | hx
        · exact Or.inl hx
        · exact Or.inr (Or.inl hx)
        · exact Or.inr (Or.inr (Or.inl hx))
    · have hpz : ((p : Int) != 0) = true := by simp; omega
      obtain ⟨q1, q2, q3⟩ := HMM.out.2.2.2.resolve_left hp0
      have hb2t := hb2.2 (Wl.held_at HX.out.good hsp2 q3)
      subst hb2t
      have hpa : ¬ (p : Int) < (a : Int) := by omega
      have hpf : ¬ (s.flushed : Int) ≤ (p : Int) := by omega
      clear hsp2 hb2 hp0 q1 q2 q3
      go_wp2_with fail
      refine HTELL.out.mono ?_
      rintro e w3 ⟨rfl, hl3, hp3, ht3⟩
      have hT3 : Touch (PutS B m1 m2 L) w w3 := (Touch.of_new HBW.out).trans ht3
      have hplL : (Value.slice pp (Wl.places s).length pc).ownBlock ≠ some L := HLM.out.npl
      have hq3 := HLM.out.qpl.keep hT3 (fun g hg hh => by
        rcases hh with hh | hh
        · exact HAW.out g hh (Or.inr (Or.inl hg))
        · exact hplL (by rw [hg, hh]))
      have HDEL := Lib.hid (delete_any hq3 i (by rw [Wl.places_length]; exact HSP.out.1))
      have HL3 := Lib.hid hl3
      have HP3 := Lib.hid hp3
      have HT3 := Lib.hid hT3
      have d7 := hl3.cell 7 (v := .slice pp (Wl.places s).length pc) rfl
      clear hl3 hp3 ht3 hT3 hq3 HTELL hplL
      go_wp2_with fail
      refine HDEL.out.mono ?_
      rintro e w4 ⟨v', rfl, hq4, hown, ht4⟩
      obtain ⟨p4, c4, rfl⟩ := hq4.qu.slice
      obtain ⟨n4, hn4⟩ : ∃ n, n = ((Wl.places s).drop i).length := ⟨_, rfl⟩
      rw [← hn4] at hq4 hown ⊢
      have hl4 := HL3.out.touch ht4 HLM.out.npl
      have f7 := blk_free hl4 7
      have e7 := LogAt.cell hl4 7 (v := .slice pp (Wl.places s).length pc) rfl
      have s7 : LogAt (w4.setCell ⟨L, 7, none⟩ (.slice p4 n4 c4)) L (Wl.kn (Wl.master s a p)) B s.at_ s.count (.slice p4 n4 c4) (.slice pw (Wl.waits s).length wc) false := blk_set (i := 7) hl4 _
      have t7 : Touch (· = L) w4 (w4.setCell ⟨L, 7, none⟩ (.slice p4 n4 c4)) := .set L 7 _ rfl
      have HE : Hid (_ ∧ _ ∧ _ ∧ _ ∧ _) := ⟨hq4, hown, ht4, s7, t7⟩
      clear hq4 hown ht4 s7 t7 hl4 hn4 HDEL d7
      go_wp2_with fail
      go_ret
      obtain ⟨hq4, hown, ht4, s7, t7⟩ := HE.out
      obtain ⟨hx2, hd2, kk, hk1, hk2, hk3, hk4⟩ := HMD.out
      have hki : kk = i := Wl.plc_inj HX.out.good hk1 HSP.out.1 (by rw [hk2, HSP.out.2.1])
      have hpls : Wl.places (Wl.master s a p) = (Wl.places s).drop i := by
        show (Wl.master s a p).recs.map _ = _
        rw [hk3, hki, List.map_drop]
        rfl
      have hnL : (Value.slice p4 n4 c4).ownBlock ≠ some L := fun h => HLM.out.npl (hown ▸ h)
      have hTT : Touch (fun x => PutS B m1 m2 L x ∨ (Value.slice pp (Wl.places s).length pc).ownBlock = some x) w (w4.setCell ⟨L, 7, none⟩ (.slice p4 n4 c4)) := ((HT3.out.mono fun x _ hx => Or.inl hx).trans (ht4.mono fun x _ hx => Or.inr hx)).trans (t7.mono fun x _ hx => Or.inl (Or.inr hx))
      have hV : ∀ x, LogV L (.slice p4 n4 c4) (.slice pw (Wl.waits s).length wc) x → LogV L (.slice pp (Wl.places s).length pc) (.slice pw (Wl.waits s).length wc) x := fun x hx => by
        rcases hx with hx | hx | hx
        · exact Or.inl hx
        · exact Or.inr (Or.inl (hown ▸ hx))
        · exact Or.inr (Or.inr hx)
      refine ⟨rfl, DS B m1 m2, LogV L (.slice p4 n4 c4) (.slice pw (Wl.waits s).length wc), _, ⟨m1, m2, .slice p4 n4 c4, .slice pw (Wl.waits s).length wc, ⟨hx2, s7, ?_, ?_, hnL, HLM.out.nwa, fun x h1 h2 => HLM.out.apart x (hown ▸ h1) h2⟩, rfl, ?_, rfl, fun x h1 h2 => HAW.out x h1 (hV x h2), s.flushed, HX.out.good.high, hd2⟩, Wl.calm_told HC.out HP.out.own.ok (Wl.head_sec _ _ _), hTT.mono fun x _ hx => ?_, fun x hx => Or.inl hx, fun x hx => Or.inl (hV x hx)⟩
      · rw [hpls]
        exact hq4.touch t7 fun x hx e => hnL (e ▸ hx)
      · rw [Wl.waits_master hk4 HMM.out.1 HMM.out.2.1]
        exact HLM.out.owa.keep hTT fun x hx h => by
          rcases h with (h | h) | h
          · exact HAW.out x h (Or.inr (Or.inr hx))
          · exact HLM.out.nwa (h ▸ hx)
          · exact HLM.out.apart x h hx
      · exact (HP3.out.keep ht4 fun x hx h => HAW.out x hx (Or.inr (Or.inl h))).keep t7 fun x hx e => HLD.out (e ▸ hx)
      · rcases hx with (hx | hx) | hx
        · exact Or.inl hx
        · exact Or.inr (Or.inl hx)
        · exact Or.inr (Or.inr (Or.inl hx))
end Go.Proofs.YtafpjcobagofcaaGreat

namespace Go.Proofs.YtafpjcobagofcaaGreat
open Go.RowKit

theorem own_wal : WlApi WlPD WlPL WlPM Wl.Hd where
  dkeep := wl_dkeep
  dlt := wl_dlt
  dok := fun h => by
    obtain ⟨m1, m2, h1, -⟩ := h
    exact h1.own.ok
  pkeep := wl_pkeep
  plt := wl_plt
  dev := wl_dev
  mem := wl_mem
  mkeep := wl_mkeep
  away := wl_away
  good := wl_good
  hold := wl_hold
  hold_crash := fun ps h => wl_hold_crash ps h
  new := wl_new
  arm := fun n h => wl_arm n h
  crash := fun v ps h hB hv => wl_crash v ps h hB hv
  make := fun a c h hC ha hc => wl_make a c h hC ha hc
  open_ := fun h hC hf hH hep hs => wl_open h hC hf hH hep hs
  open_bad := fun a c h hC ha hc hf => wl_open_bad a c h hC ha hc hf
  make_nil := wl_make_nil
  open_nil := wl_open_nil
  append := fun x o n u c t h hr hf _ hs => wl_append x o n u c t h hr hf hs
  append_nil := fun x o n u c t w _ _ => wl_append_nil x o n u c t w
  read := fun p h hC _ hs => wl_read p h hC hs
  read_nil := wl_read_nil
  flush := fun h hN hs => wl_flush h hN hs
  flush_nil := wl_flush_nil
  master := fun a p h hC hm hs => wl_master a p h hC hm hs
  master_nil := fun a p w => wl_master_nil w a p
  start := wl_start
  end_ := wl_end_
  epoch := wl_epoch
  left := fun h hs _ => wl_left h hs
  start_nil := wl_start_nil
  end_nil := wl_end_nil
  flushed_nil := wl_flushed_nil
  point_nil := wl_point_nil
  epoch_nil := wl_epoch_nil
  left_nil := wl_left_nil
end Go.Proofs.YtafpjcobagofcaaGreat
