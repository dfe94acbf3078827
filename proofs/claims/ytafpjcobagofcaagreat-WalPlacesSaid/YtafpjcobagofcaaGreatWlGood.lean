/- How many bytes of a half are the log's, by the program. Conditions: the numbers are small. -/
import Derived.Test.YtafpjcobagofcaaGreatWlRd
namespace Go.Proofs.YtafpjcobagofcaaGreat
open Go.RowKit

set_option maxHeartbeats 1600000 in
set_option maxRecDepth 20000 in
theorem wlGood_any {w : World} {L B a c : Nat} {k : Wl.Kn} {pl wa : Value} {dn : Bool} (h : LogAt w L k B a c pl wa dn) (hc1 : 1 ≤ c) (hc2 : c ≤ 8192) (g : Nat) (hg : g ≤ 10000000000000) (hr : g / (2 * c) < 4294967296) (x : Wl.Hf) (hf : x.fill < 4294967296) (hfl : k.flushed ≤ 1000000000000000) :
    Calls Tryz.prog 69 #[.pointer (some ⟨L, 0, none⟩), .int .u64 (g : Int), HfV x] w fun e w' => e = .returned (.int .i64 ((Wl.good k.flushed k.epoch (2 * c) g x : Nat) : Int)) ∧ Below w.heap.size w w' := by
  obtain ⟨W, hW⟩ : ∃ W, W = w.alloc (.cells (HfC x) 93) := ⟨_, rfl⟩
  have hb0 : Below w.heap.size w W := by rw [hW]; exact below_new1 _ _
  have hrow : HfAt W w.heap.size x := by rw [hW]; exact heap_alloc_last _ _
  obtain ⟨Q, hQ⟩ : ∃ Q, Q = w.heap.size := ⟨_, rfl⟩
  rw [← hQ] at hrow
  have hl := h.below hb0
  have HL := Lib.hid hl
  have HB0 := Lib.hid hb0
  have HR := Lib.hid hrow
  have hround := fun n => wlRound_any (hl.drew n) g hc1 hc2 hr
  obtain ⟨r, hrr⟩ : ∃ r, r = g / (2 * c) := ⟨_, rfl⟩
  have c2 := hrow.c2
  have h1 := IntWalk.u64_in (x.fill : Int) (by omega)
  obtain ⟨n1, hn1⟩ : ∃ n, n = min x.fill 52 := ⟨_, rfl⟩
  have h2 : min (x.fill : Int) 52 = (n1 : Int) := by omega
  rw [← hrr] at hround
  have hgood : Wl.good k.flushed k.epoch (2 * c) g x = if x.round ≠ r then 0 else if x.epoch ≠ k.epoch then min n1 (max (g * 52) k.flushed - g * 52) else n1 := by
    unfold Wl.good
    rw [hrr, hn1]
  rw [hgood]
  have HN1 : Hid (n1 ≤ 52) := by show _ ≤ _; omega
  clear h hb0 hl hrow hgood hr hrr hn1
  have c0 := HR.out.c0
  by_cases hrd : x.round = r
  · have hbr : ((x.round : Int) != (r : Int)) = false := by rw [hrd]; simp
    rw [if_neg (by rw [hrd]; simp)]
    clear hrd
    obtain ⟨place, hpl⟩ : ∃ p, p = g * 52 := ⟨_, rfl⟩
    have h3 : IntKind.u64.wrap ((g : Int) * 52) = (place : Int) := by rw [IntWalk.u64_in _ (by omega)]; omega
    rw [← hpl]
    have HPL : Hid (place ≤ 1000000000000000) := by show _ ≤ _; omega
    clear hpl
    by_cases he : x.epoch = k.epoch
    · rw [if_neg (by rw [he]; simp)]
      have hbe : ((x.epoch : Int) != (k.epoch : Int)) = false := by rw [he]; simp
      have h4 := IntWalk.i64_in (n1 : Int) (by have := HN1.out; omega)
      have h5 := IntWalk.wrap64_in (n1 : Int) (by have := HN1.out; omega)
      clear he
      go_enter Tryz.func69, Tryz.ntmps69
      go_upto_region 1 with (fail)
      rw [← hW, ← hQ]
      clear hW hQ
      go_wp2_with fail
      go_quiet ((go_at_call 97; exact calls_quiet (hround _)))
      have HB1 := Lib.hid (HB0.out.trans ((below_drewN W.heap.size W nq).mono HB0.out.size))
      have HL1 : Hid (LogAt (W.drewN nq) L k B a c pl wa dn) := HL.out
      have HR1 : Hid (HfAt (W.drewN nq) Q x) := HR.out
      clear c0 c2 hround
      generalize W.drewN nq = W1 at *
      have d1 := HR1.out.c1
      have d3 := HL1.out.cell 3 (v := .int .u32 (k.epoch : Int)) rfl
      go_wp2_with fail
      go_quiet (fail)
      have HB2 := Lib.hid (HB1.out.trans ((below_drewN W1.heap.size W1 nq).mono HB1.out.size))
      have HL2 : Hid (LogAt (W1.drewN nq) L k B a c pl wa dn) := HL1.out
      clear d1 d3
      generalize W1.drewN nq = W2 at *
      go_wp2_with fail
      go_ret
      exact ⟨rfl, HB2.out⟩
    · rw [if_pos he]
      have hbe : ((x.epoch : Int) != (k.epoch : Int)) = true := by simp; omega
      obtain ⟨n2, hn2⟩ : ∃ n, n = max place k.flushed - place := ⟨_, rfl⟩
      obtain ⟨n3, hn3⟩ : ∃ n, n = min n1 n2 := ⟨_, rfl⟩
      rw [← hn2, ← hn3]
      obtain ⟨mx, hmx⟩ : ∃ m, m = max place k.flushed := ⟨_, rfl⟩
      have h6 : max (place : Int) (k.flushed : Int) = (mx : Int) := by omega
      have h7 : IntKind.u64.wrap ((mx : Int) - (place : Int)) = (n2 : Int) := by have := HPL.out; rw [IntWalk.u64_in _ (by omega)]; omega
      have h8 : min (n1 : Int) (n2 : Int) = (n3 : Int) := by omega
      have h4 := IntWalk.i64_in (n3 : Int) (by have := HN1.out; omega)
      have h5 := IntWalk.wrap64_in (n3 : Int) (by have := HN1.out; omega)
      clear he hn2 hn3 hmx
      go_enter Tryz.func69, Tryz.ntmps69
      go_upto_region 1 with (fail)
      rw [← hW, ← hQ]
      clear hW hQ
      go_wp2_with fail
      go_quiet ((go_at_call 97; exact calls_quiet (hround _)))
      have HB1 := Lib.hid (HB0.out.trans ((below_drewN W.heap.size W nq).mono HB0.out.size))
      have HL1 : Hid (LogAt (W.drewN nq) L k B a c pl wa dn) := HL.out
      have HR1 : Hid (HfAt (W.drewN nq) Q x) := HR.out
      clear c0 c2 hround
      generalize W.drewN nq = W1 at *
      have d1 := HR1.out.c1
      have d3 := HL1.out.cell 3 (v := .int .u32 (k.epoch : Int)) rfl
      go_wp2_with fail
      go_quiet (fail)
      have HB2 := Lib.hid (HB1.out.trans ((below_drewN W1.heap.size W1 nq).mono HB1.out.size))
      have HL2 : Hid (LogAt (W1.drewN nq) L k B a c pl wa dn) := HL1.out
      clear d1 d3
      generalize W1.drewN nq = W2 at *
      have e1 := HL2.out.cell 1 (v := .int .u64 (k.flushed : Int)) rfl
      go_wp2_with fail
      go_ret
      exact ⟨rfl, HB2.out⟩
  · have hbr : ((x.round : Int) != (r : Int)) = true := by simp; omega
    rw [if_pos hrd]
    clear hrd
    go_enter Tryz.func69, Tryz.ntmps69
    go_upto_region 1 with (fail)
    rw [← hW, ← hQ]
    clear hW hQ
    go_wp2_with fail
    go_quiet ((go_at_call 97; exact calls_quiet (hround _)))
    have HB1 := Lib.hid (HB0.out.trans ((below_drewN W.heap.size W nq).mono HB0.out.size))
    clear c0 c2 hround
    generalize W.drewN nq = W1 at *
    go_wp2_with fail
    go_ret
    exact ⟨rfl, HB1.out⟩
end Go.Proofs.YtafpjcobagofcaaGreat
