/- What the program's joining of two sums answers, over any world. Conditions: sums are below 2^32; the number fits its kind; the library's table stands in its variable. -/
import Derived.Test.YtcklncnelpclpaaDoorCrcStep
import Derived.Deep.DeepCutAuto
namespace Go.Proofs.YtcklncnelpclpaaDoor
open Go.RowKit

/-- What stands in the middle of a joining: the step by m bits in block g, the register x, N rounds' worth still to be gone, R the register at the end. -/
structure Jn (w wx : World) (g m : Nat) (cs : Array Value) (x N R : Nat) : Prop where
  lt : x < 4294967296
  cell : wx.heap[g]? = some (.cells cs 30 (0, 0))
  stp : Stp cs m
  val : Crc.Hn (m * N) x = R
  below : Below w.heap.size w wx
  new : w.heap.size ≤ g

theorem odd_val (m N : Nat) (h : N % 2 = 1) : m + m * (2 * (N / 2)) = m * N := by
  have e : N = 2 * (N / 2) + 1 := by omega
  generalize N / 2 = q at e
  rw [e, Nat.mul_add, Nat.mul_one, Nat.add_comm]

theorem zeros30 : (#[.int .u32 0, .int .u32 0, .int .u32 0, .int .u32 0, .int .u32 0, .int .u32 0, .int .u32 0, .int .u32 0, .int .u32 0, .int .u32 0, .int .u32 0, .int .u32 0, .int .u32 0, .int .u32 0, .int .u32 0, .int .u32 0, .int .u32 0, .int .u32 0, .int .u32 0, .int .u32 0, .int .u32 0, .int .u32 0, .int .u32 0, .int .u32 0, .int .u32 0, .int .u32 0, .int .u32 0, .int .u32 0, .int .u32 0, .int .u32 0, .int .u32 0, .int .u32 0] : Array Value) = Array.replicate 32 (.int .u32 0) := rfl

set_option maxHeartbeats 1600000 in
theorem join_any (a b : Nat) (n : Int) (w : World) (ha : a < 4294967296) (hb : b < 4294967296) (hn : n ≤ 9223372036854775807) (hT : Tz w) :
    Calls Tryd.prog 5 #[.int .u32 (a : Int), .int .u32 (b : Int), .int .i64 n] w fun e w' => e = .returned (.int .u32 ((Crc.Hn (8 * n.toNat) a ^^^ b : Nat) : Int)) ∧ Below w.heap.size w w' := by
  have HT := Lib.hid hT
  clear hT
  go_enter Tryd.func5, Tryd.ntmps5
  go_wp2_with fail
  refine (byteStep_any _).mono ?_
  rintro e w1 ⟨cs, rfl, hS, hbel⟩
  have HS := Lib.hid hS
  have HSZ := Lib.hid (show (Tryd.prog.info? 30).map (·.size) = some cs.size by rw [hS.size]; exact size30)
  have HBL := Lib.hid hbel
  clear hS hbel
  dsimp only
  go_at_K
  go_step
  go_step
  go_step
  go_step
  rw [zeros30]
  refine wpList_store_row rfl 30 (.tmp 7) (.tmp 8) rfl w1.heap.size cs rfl rfl 30 (Array.replicate 32 (.int .u32 0)) (heap_alloc_last _ _) HSZ.out (by rw [HS.out.size]; simp) HS.out.ones ?_
  rw [World.setRow_alloc_new]
  have HJ := Lib.hid (show Jn w (w1.alloc (.cells cs 30)) w1.heap.size 8 cs a n.toNat (Crc.Hn (8 * n.toNat) a) from ⟨ha, heap_alloc_last _ _, HS.out, rfl, HBL.out.alloc HBL.out.size _, HBL.out.size⟩)
  obtain ⟨R, hR⟩ : ∃ R, R = Crc.Hn (8 * n.toNat) a := ⟨_, rfl⟩
  rw [← hR] at HJ
  have HRR := Lib.hid hR
  clear hR
  generalize hg : w1.heap.size = g at HJ ⊢
  generalize w1.alloc (.cells cs 30) = W at HJ ⊢
  clear hg HS HSZ HBL
  go_wp2
  go_frame
  go_loopw [0, 2, 7] (fun s0 s2 s7 wx => ∃ (x g m : Nat) (z : Int) (cs : Array Value), s0 = .int .u32 x ∧ s2 = .int .i64 z ∧ z ≤ 9223372036854775807 ∧ s7 = .pointer (some ⟨g, 0, none⟩) ∧ Jn w wx g m cs x z.toNat R) (fun _ s2 _ _ => (intOf s2).toNat)
  case atStart => exact ⟨a, g, 8, n, cs, rfl, rfl, hn, rfl, HJ.out⟩
  case round =>
    obtain ⟨x, g, m, z, cs, rfl, rfl, hz, rfl, hJ⟩ := hrel
    have HX := Lib.hid hJ
    clear hJ HJ
    by_cases h0 : z ≤ 0
    · have HR := Lib.hid (show R = x by have h := HX.out.val; rw [show z.toNat = 0 by omega, Nat.mul_zero] at h; exact h.symm)
      have hx := HX.out.lt
      go_wp2
      go_ret
      exact ⟨ret_int (by rw [xor_u32 _ _ hx hb, ← HRR.out, HR.out]), HX.out.below⟩
    · obtain ⟨N, rfl⟩ : ∃ N : Nat, z = (N : Int) := ⟨z.toNat, by omega⟩
      have hN : 0 < N := by omega
      have hpos : (0 : Int) < (N : Int) := by omega
      clear h0
      rw [Int.toNat_natCast] at HX
      have hx := HX.out.lt
      by_cases hodd : N % 2 = 1
      · have ht : ((N : Int) % 2 == 1) = true := by simp; omega
        have HO := Lib.hid hodd
        clear hodd
        go_upto_region 5 with (fail)
        have HSX := Lib.hid (show (Tryd.prog.info? 30).map (·.size) = some cs.size by rw [HX.out.stp.size]; exact size30)
        go_step
        refine wpList_load_row rfl 30 (.tmp 7) rfl g rfl 30 cs (0, 0) _ HX.out.cell Tryd.underlying30 rfl HSX.out ?_
        go_wp2_with fail
        refine (stepTake_any cs m x _ HX.out.stp hx (HT.out.below HX.out.below)).mono ?_
        rintro e w2 ⟨rfl, hb2⟩
        obtain ⟨x2, hx2⟩ : ∃ x2, x2 = Crc.Hn m x := ⟨_, rfl⟩
        rw [← hx2]
        have J := Lib.hid (show Jn w w2 g m cs x2 (2 * (N / 2)) R from ⟨by rw [hx2]; exact Crc.Hn_lt m hx, by rw [hb2.block _ (heap_lt HX.out.cell)]; exact HX.out.cell, HX.out.stp, by rw [hx2, ← Crc.Hn_add, odd_val m N HO.out]; exact HX.out.val, HX.out.below.trans (hb2.mono HX.out.below.size), HX.out.new⟩)
        clear hx2 hb2
        go_upto_region 6 with (fail)
        have HSZ := Lib.hid (show (Tryd.prog.info? 30).map (·.size) = some cs.size by rw [J.out.stp.size]; exact size30)
        go_step
        refine wpList_load_row rfl 30 (.tmp 7) rfl g rfl 30 cs (0, 0) _ J.out.cell Tryd.underlying30 rfl HSZ.out ?_
        go_wp2_with fail
        refine (square_any cs m _ J.out.stp (HT.out.below J.out.below)).mono ?_
        rintro e w3 ⟨cs2, rfl, hS2, hb3⟩
        have HS2 := Lib.hid hS2
        have HSZ2 := Lib.hid (show (Tryd.prog.info? 30).map (·.size) = some cs2.size by rw [hS2.size]; exact size30)
        have HC3 := Lib.hid (show w3.heap[g]? = some (.cells cs 30 (0, 0)) by rw [hb3.block _ (heap_lt J.out.cell)]; exact J.out.cell)
        have HB3 := Lib.hid (J.out.below.trans (hb3.mono J.out.below.size))
        clear hS2 hb3
        dsimp only
        go_at_K
        go_step
        refine wpList_store_row rfl 30 (.tmp 7) (.tmp 20) rfl g cs2 rfl rfl 30 cs HC3.out HSZ2.out (by rw [J.out.stp.size, HS2.out.size]) HS2.out.ones ?_
        have HC4 := Lib.hid (show (w3.setRow g cs2).heap[g]? = some (.cells cs2 30 (0, 0)) from setRow_heap _ _ _ _ _ _ HC3.out)
        have HB4 := Lib.hid (below_setRow HB3.out J.out.new cs2)
        generalize w3.setRow g cs2 = w4 at HC4 HB4 ⊢
        clear HB3 HC3
        go_upto_region 7 with (fail)
        go_step
        refine wpList_load_row rfl 30 (.tmp 7) rfl g rfl 30 cs2 (0, 0) _ HC4.out Tryd.underlying30 rfl HSZ2.out ?_
        go_upto_region 8 with (fail)
        go_step
        go_step
        go_step
        go_step
        rw [zeros30]
        refine wpList_store_row rfl 30 (.tmp 7) (.tmp 21) rfl w4.heap.size cs2 rfl rfl 30 (Array.replicate 32 (.int .u32 0)) (heap_alloc_last _ _) HSZ2.out (by rw [HS2.out.size]; simp) HS2.out.ones ?_
        rw [World.setRow_alloc_new]
        have HJ5 := Lib.hid (show Jn w (w4.alloc (.cells cs2 30)) w4.heap.size (m + m) cs2 x2 (N / 2) R from ⟨J.out.lt, heap_alloc_last _ _, HS2.out, by rw [← J.out.val]; congr 1; rw [← Nat.two_mul, Nat.mul_comm 2 m, Nat.mul_assoc], HB4.out.alloc HB4.out.size _, HB4.out.size⟩)
        generalize w4.alloc (.cells cs2 30) = w5 at HJ5 ⊢
        generalize w4.heap.size = g2 at HJ5 ⊢
        clear HB4 HC4 HS2 J HX
        go_wp2
        refine ⟨⟨x2, g2, m + m, ((N / 2 : Nat) : Int), cs2, rfl, by simp, by omega, rfl, by rw [Int.toNat_natCast]; exact HJ5.out⟩, by simp [intOf]; omega⟩
      · have ht : ((N : Int) % 2 == 1) = false := by simp; omega
        have J := Lib.hid (show Jn w wr g m cs x (2 * (N / 2)) R from ⟨HX.out.lt, HX.out.cell, HX.out.stp, by rw [← HX.out.val]; congr 2; omega, HX.out.below, HX.out.new⟩)
        clear hodd
        go_upto_region 6 with (fail)
        have HSZ := Lib.hid (show (Tryd.prog.info? 30).map (·.size) = some cs.size by rw [J.out.stp.size]; exact size30)
        go_step
        refine wpList_load_row rfl 30 (.tmp 7) rfl g rfl 30 cs (0, 0) _ J.out.cell Tryd.underlying30 rfl HSZ.out ?_
        go_wp2_with fail
        refine (square_any cs m _ J.out.stp (HT.out.below J.out.below)).mono ?_
        rintro e w3 ⟨cs2, rfl, hS2, hb3⟩
        have HS2 := Lib.hid hS2
        have HSZ2 := Lib.hid (show (Tryd.prog.info? 30).map (·.size) = some cs2.size by rw [hS2.size]; exact size30)
        have HC3 := Lib.hid (show w3.heap[g]? = some (.cells cs 30 (0, 0)) by rw [hb3.block _ (heap_lt J.out.cell)]; exact J.out.cell)
        have HB3 := Lib.hid (J.out.below.trans (hb3.mono J.out.below.size))
        clear hS2 hb3
        dsimp only
        go_at_K
        go_step
        refine wpList_store_row rfl 30 (.tmp 7) (.tmp 20) rfl g cs2 rfl rfl 30 cs HC3.out HSZ2.out (by rw [J.out.stp.size, HS2.out.size]) HS2.out.ones ?_
        have HC4 := Lib.hid (show (w3.setRow g cs2).heap[g]? = some (.cells cs2 30 (0, 0)) from setRow_heap _ _ _ _ _ _ HC3.out)
        have HB4 := Lib.hid (below_setRow HB3.out J.out.new cs2)
        generalize w3.setRow g cs2 = w4 at HC4 HB4 ⊢
        clear HB3 HC3
        go_upto_region 7 with (fail)
        go_step
        refine wpList_load_row rfl 30 (.tmp 7) rfl g rfl 30 cs2 (0, 0) _ HC4.out Tryd.underlying30 rfl HSZ2.out ?_
        go_upto_region 8 with (fail)
        go_step
        go_step
        go_step
        go_step
        rw [zeros30]
        refine wpList_store_row rfl 30 (.tmp 7) (.tmp 21) rfl w4.heap.size cs2 rfl rfl 30 (Array.replicate 32 (.int .u32 0)) (heap_alloc_last _ _) HSZ2.out (by rw [HS2.out.size]; simp) HS2.out.ones ?_
        rw [World.setRow_alloc_new]
        have HJ5 := Lib.hid (show Jn w (w4.alloc (.cells cs2 30)) w4.heap.size (m + m) cs2 x (N / 2) R from ⟨J.out.lt, heap_alloc_last _ _, HS2.out, by rw [← J.out.val]; congr 1; rw [← Nat.two_mul, Nat.mul_comm 2 m, Nat.mul_assoc], HB4.out.alloc HB4.out.size _, HB4.out.size⟩)
        generalize w4.alloc (.cells cs2 30) = w5 at HJ5 ⊢
        generalize w4.heap.size = g2 at HJ5 ⊢
        clear HB4 HC4 HS2 J HX
        go_wp2
        refine ⟨⟨x, g2, m + m, ((N / 2 : Nat) : Int), cs2, rfl, by simp, by omega, rfl, by rw [Int.toNat_natCast]; exact HJ5.out⟩, by simp [intOf]; omega⟩
end Go.Proofs.YtcklncnelpclpaaDoor
