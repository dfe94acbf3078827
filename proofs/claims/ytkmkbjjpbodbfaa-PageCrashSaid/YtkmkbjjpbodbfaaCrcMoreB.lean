/- What the program's sums answer, over any world. Conditions: registers are below 2^32; the slice's cells hold the bytes. -/
import Derived.Test.YtkmkbjjpbodbfaaCrcTabB
namespace Go.Proofs.Ytkmkbjjpbodbfaa
open Go.RowKit

theorem ones_of {cs : Array Value} (hcs : cs.size = 256) (hall : ∀ i, i < 256 → cs[i]? = some (.int .u32 (Crc.S i : Nat))) : cs.all (·.oneCell') = true := by
  rw [Array.all_eq_true]
  intro i hi
  have := hall i (by omega)
  rw [Array.getElem?_eq_getElem hi] at this
  rw [Option.some.inj this]; rfl

set_option maxHeartbeats 800000 in
set_option maxRecDepth 20000 in
theorem more_any (s : Nat) (v : Value) (l : List Nat) (w : World) (hs : s < 4294967296) (hB : Bts w v l) :
    Calls Try.prog 47 #[.int .u32 (s : Int), v] w fun e w' => e = .returned (.int .u32 (Crc.more s l : Nat)) ∧ Below w.heap.size w w' := by
  have HB := Lib.hid hB
  obtain ⟨p, cap, rfl, -, -, hp⟩ := hB.form
  have hlen := hB.len
  clear hp hB
  have hz := zero33.1
  have hmf : ∀ (fn : Fn) (first cap : Array Value) (w : World), (Instr.makeFunc fn first cap).run Try.prog w = .ok (.func fn first cap) w := fun _ _ _ _ => rfl
  go_enter Try.func47, Try.ntmps47
  go_wp2_with fail
  refine (table_any _).mono ?_
  rintro e w1 ⟨cs, rfl, hcs, hall, hbel⟩
  have hone := ones_of hcs hall
  have hsz : (Try.prog.info? 96).map (·.size) = some cs.size := by rw [hcs]; exact zero33.2
  have hg : (w1.alloc (.cells (Array.replicate 256 (.int .u32 0)) 96)).heap[w1.heap.size]? = some (.cells (Array.replicate 256 (.int .u32 0)) 96 (0, 0)) := heap_alloc_last _ _
  have hcell : ∀ i, i < 256 → (w1.alloc (.cells cs 96)).cell? ⟨w1.heap.size, i, none⟩ = some (.int .u32 (Crc.S i : Nat)) := by
    intro i hi
    rw [cell_of_row _ w1.heap.size i cs 96 (0, 0) (heap_alloc_last _ _)]
    exact hall i hi
  have HSZ := Lib.hid hsz
  have HG := Lib.hid hg
  have HCELL := Lib.hid hcell
  have HCS := Lib.hid hcs
  have HW := Lib.hid ((hbel.alloc hbel.size (.cells cs 96)))
  clear hsz hg hcell hcs hall
  dsimp only
  go_at_K
  go_step
  go_step
  go_step
  go_step
  refine wpList_store_row rfl 96 (.tmp 5) (.tmp 10) rfl w1.heap.size cs rfl rfl 96 (Array.replicate 256 (.int .u32 0)) HG.out HSZ.out (by rw [HCS.out]; simp) hone ?_
  rw [World.setRow_alloc_new]
  clear hz hone hbel
  have HB2 := Lib.hid (HB.out.below HW.out)
  generalize w1.alloc (.cells cs 96) = W at HCELL HW HB2 ⊢
  generalize w1.heap.size = B at HCELL ⊢
  go_wp2
  rw [not_u32 s hs]
  go_loop [7, 16] (fun r i => ∃ k : Nat, k ≤ l.length ∧ i = .int .i64 k ∧ r = .int .u32 (Crc.raw (Crc.ones ^^^ s) (l.take k) : Nat)) (fun _ i => l.length - (intOf i).toNat)
  case atStart => exact ⟨0, by omega, rfl, rfl⟩
  case round =>
    obtain ⟨k, hk, rfl, rfl⟩ := hrel
    have hr : Crc.raw (Crc.ones ^^^ s) (l.take k) < 4294967296 := Crc.raw_lt (Nat.xor_lt_two_pow (n := 32) (by decide) hs) (HB.out.mem_take k)
    by_cases hlt : k < l.length
    · have HS := Lib.hid (Crc.raw_snoc (Crc.ones ^^^ s) (l.take k) (l.getD k 0))
      rw [← take_succ_getD l k hlt] at HS
      have hy := HB.out.getD k
      obtain ⟨p', cap', he, -, -, hp⟩ := HB2.out.form
      obtain ⟨b, off, hpe, hc⟩ := hp (by omega)
      have hck := hc k hlt
      simp only [Value.slice.injEq] at he
      obtain ⟨rfl, -, rfl⟩ := he
      subst hpe
      clear hc hp
      generalize Crc.raw (Crc.ones ^^^ s) (l.take k) = r at hr HS ⊢
      generalize l.getD k 0 = y at hy HS hck
      go_wp2_with (go_at_call 59; refine (take_any r y B _ hr hy HCELL.out).mono ?_; rintro e w' ⟨rfl, rfl⟩)
      go_round
      case rel => exact ⟨k + 1, by omega, by go_num, by rw [HS.out]⟩
      case measure => simp [intOf]; omega
    · obtain rfl : k = l.length := by omega
      rw [List.take_length] at hr ⊢
      go_wp2
      go_ret
      exact ⟨ret_int (not_u32 _ hr), HW.out⟩

set_option maxHeartbeats 400000 in
theorem sum_any (v : Value) (l : List Nat) (w : World) (hB : Bts w v l) :
    Calls Try.prog 27 #[v] w fun e w' => e = .returned (.int .u32 (Crc.more 0 l : Nat)) ∧ Below w.heap.size w w' := by
  have HB := Lib.hid hB
  clear hB
  go_enter Try.func27, Try.ntmps27
  go_wp2_with (go_at_call 47; refine (more_any 0 _ _ _ (by decide) HB.out).mono ?_; rintro e w' ⟨rfl, hb⟩)
  go_ret
  exact ⟨rfl, by assumption⟩
end Go.Proofs.Ytkmkbjjpbodbfaa
