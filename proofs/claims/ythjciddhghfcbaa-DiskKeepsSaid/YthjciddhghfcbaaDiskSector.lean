/- A law's sector: 128 bytes of a number. Conditions: none. -/
import Derived.Test.YthjciddhghfcbaaDiskNew
namespace Go.Proofs.Ythjciddhghfcbaa
open Go.RowKit

def secB (n : Int) (i : Nat) : Nat := ((n + i) % 256).toNat
def secL (n : Int) : List Nat := (List.range 128).map (secB n)
theorem secB_lt (n : Int) (i : Nat) : secB n i < 256 := by unfold secB; omega
theorem secL_length (n : Int) : (secL n).length = 128 := by simp [secL]
theorem secL_small (n : Int) : ∀ x ∈ secL n, x < 256 := by
  intro x hx
  obtain ⟨i, -, rfl⟩ := List.mem_map.1 hx
  exact secB_lt n i
theorem sec_secL (n : Int) : Dk.Sec (secL n) := ⟨secL_length n, secL_small n⟩

theorem sec_wrap (n : Int) (k : Nat) : wrap64 (n + (k : Int)) % 256 = (secB n k : Int) := by
  unfold secB wrap64
  omega

def bv (x : Nat) : Value := .int .u8 (x : Int)

/-- A row of bytes of the call's own, by its block. -/
theorem own_blk {base g : Nat} {w : World} {l : List Nat} (h : w.heap[g]? = some (.cells (l.map bv).toArray 5 (0, 0))) (hg : base ≤ g) (hs : ∀ x ∈ l, x < 256) (hl : l.length ≤ 140737488355328) : Own base w (.slice (some ⟨g, 0, none⟩) l.length l.length) l :=
  ⟨⟨by simp [bytesV], Or.inr ⟨g, l.length, (l.map bv).toArray, rfl, hg, h, Nat.le_refl _, by unfold maxLen; omega, by simp, by simp only [Nat.mul_one]; rw [List.take_of_length_le (by simp)]; rfl⟩⟩, hs, hl⟩

theorem made_bytes (n : Nat) (hn : n ≤ 65536) (W : World) : (Instr.makeSlice 32 (.int .i64 (n : Int)) (.int .i64 (n : Int))).run Try.prog W = .ok (.slice (some ⟨W.heap.size, 0, none⟩) n n) (W.alloc (.cells (List.replicate n (.int .u8 0)).toArray 5)) := by
  obtain ⟨i0, hi, hz0, hz1, hz2⟩ := info_parts info5
  have h := run_makeSlice (P := Try.prog) W 32 5 i0 _ Try.underlying32 hi hz0 .i64 .i64 n n (by omega) (Int.le_refl _) (by rw [hz1]; omega) (by rw [hz2]; omega) (by omega)
  rw [Int.toNat_natCast, hz1, Nat.mul_one] at h
  rw [h]
  congr 3
  exact made_one _ n

set_option maxHeartbeats 800000 in
set_option maxRecDepth 20000 in
theorem sector_any (n : Int) (w : World) : Calls Try.prog 20 #[.int .i64 n] w fun e w' => ∃ g, e = .returned (.slice (some ⟨g, 0, none⟩) 128 128) ∧ w.heap.size ≤ g ∧ w'.heap[g]? = some (.cells ((secL n).map bv).toArray 5 (0, 0)) ∧ Below w.heap.size w w' := by
  have hmk : (Instr.makeSlice 32 (.int .i64 128) (.int .i64 128)).run Try.prog w = .ok (.slice (some ⟨w.heap.size, 0, none⟩) 128 128) (w.alloc (.cells (List.replicate 128 (.int .u8 0)).toArray 5)) := made_bytes 128 (by decide) w
  have hz : (List.replicate 128 (Value.int .u8 0)).toArray = ((List.replicate 128 0).map bv).toArray := by rw [List.map_replicate]; rfl
  rw [hz] at hmk
  obtain ⟨W, hW⟩ : ∃ W, W = w.alloc (.cells ((List.replicate 128 0).map bv).toArray 5) := ⟨_, rfl⟩
  have hb0 : Below w.heap.size w W := by rw [hW]; exact (Below.refl _ _).alloc (Nat.le_refl _) _
  have hr0 : W.heap[w.heap.size]? = some (.cells ((List.replicate 128 0).map bv).toArray 5 (0, 0)) := by rw [hW]; exact heap_alloc_last _ _
  rw [← hW] at hmk
  have HR := Lib.hid hr0
  have HB := Lib.hid hb0
  obtain ⟨g, hg⟩ : ∃ g, w.heap.size = g := ⟨_, rfl⟩
  rw [hg] at hmk HR
  have HG := Lib.hid hg
  clear hz hW hb0 hr0 hg
  go_enter Try.func20, Try.ntmps20
  go_wp2_with fail
  clear hmk
  go_loopw [4] (fun i wr => ∃ k : Nat, k ≤ 128 ∧ i = .int .i64 k ∧ wr.heap[g]? = some (.cells (((secL n).take k ++ (List.replicate 128 0).drop k).map bv).toArray 5 (0, 0)) ∧ Touch (fun j => j = g) W wr) (fun i _ => 128 - (intOf i).toNat)
  case atStart => exact ⟨0, Nat.zero_le _, rfl, HR.out, .refl _ _⟩
  case round =>
    obtain ⟨k, hk, rfl, hG, hT⟩ := hrel
    have HG1 := Lib.hid hG
    have HT := Lib.hid hT
    clear hG hT
    by_cases hlt : k < 128
    · have hki : (k : Int) < 128 := by omega
      have hlen : k < ((secL n).take k ++ (List.replicate 128 0).drop k).length := by simp [secL_length]; omega
      have c1 := blk_at HG1.out 0 hlen
      have f1 := blk_free HG1.out k
      have hm := blk_map (i := k) HG1.out (secB n k)
      rw [Dk.set_mid (secL n) (List.replicate 128 0) k (secB n k) (by rw [secL_length]; exact hlt) (by simp; omega) (by simp [secL, hlt])] at hm
      have HM := Lib.hid hm
      have HT2 := Lib.hid (HT.out.trans (.set g k (bv (secB n k)) rfl))
      clear hm hlen
      go_wp2_with fail
      rw [sec_wrap]
      go_roundw
      case rel => exact ⟨k + 1, by omega, by go_num, HM.out, HT2.out⟩
      case measure => simp [intOf]; omega
    · obtain rfl : k = 128 := by omega
      have hG := HG1.out
      rw [List.take_of_length_le (by rw [secL_length]; omega), List.drop_of_length_le (by simp), List.append_nil] at hG
      have HG2 := Lib.hid hG
      clear hG
      go_wp2_with fail
      go_ret
      exact ⟨g, rfl, by rw [HG.out]; exact Nat.le_refl _, HG2.out, HB.out.trans (HT.out.below (fun i e => by rw [e, HG.out]; exact Nat.le_refl _) (by have := HB.out.size; omega))⟩
end Go.Proofs.Ythjciddhghfcbaa
