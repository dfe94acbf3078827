/- The library's Delete of the first ones of a slice of numbers. Conditions: none. -/
import Derived.Test.YtafpjcobagofcaaGreatWlQuM
import Derived.Lib.OwnBridge
import Derived.Shelf.SlicesE.Delete
import Derived.Test.YtafpjcobagofcaaGreatProg
import Derived.Test.YtafpjcobagofcaaGreatChecked
import Derived.KernelRfl
namespace Go.Proofs.YtafpjcobagofcaaGreat
open Go.Shelf Go.RowKit

def delU_ren : Go.Shelf.Ren := ⟨fun | 45 => 34 | n => n, fun | 0 => 0 | 3 => 3 | 4 => 4 | 22 => 54 | 23 => 30 | n => n, fun n => n⟩

theorem delU_lays : Go.Proofs.SlLaysE.n45 Tryz.prog delU_ren := {
  mixed := by kernel_rfl,
  f45 := ⟨Tryz.f34.name, by decide, Tryz.func34.trans (congrArg some (by kernel_rfl))⟩,
  t0 := Tryz.underlying0,
  a0 := Tryz.isAgg0,
  z0 := Tryz.sizeOf0,
  v0 := Tryz.zeroValue0,
  t3 := Tryz.underlying3,
  a3 := Tryz.isAgg3,
  z3 := Tryz.sizeOf3,
  v3 := Tryz.zeroValue3,
  t4 := Tryz.underlying4,
  a4 := Tryz.isAgg4,
  z4 := Tryz.sizeOf4,
  v4 := Tryz.zeroValue4,
  t22 := Tryz.underlying54,
  a22 := Tryz.isAgg54,
  z22 := Tryz.sizeOf54,
  v22 := Tryz.zeroValue54,
  a23 := Tryz.isAgg30,
  z23 := Tryz.sizeOf30 }

def encU (x : Nat) : Value := .int .u64 (x : Int)
theorem delete_any {base : Nat} {v : Value} {l : List Nat} {w : World} (hq : QO base w v l) (j : Nat) (hj : j ≤ l.length) :
    Calls Tryz.prog 34 #[v, .int .i64 0, .int .i64 (j : Int)] w fun e w' => ∃ v', e = .returned v' ∧ QO base w' v' (l.drop j) ∧ v'.ownBlock = v.ownBlock ∧ Touch (fun i => v.ownBlock = Option.some i) w w' := by
  have hqu := hq.qu
  rcases hq.2 with ⟨hv, h0⟩ | ⟨g, cap, cur, hv, hb, hh, h2, h3, h4, h5⟩
  · obtain rfl := hv
    obtain rfl : l = [] := List.eq_nil_of_length_eq_zero h0
    obtain rfl : j = 0 := by simpa using hj
    clear hq hqu
    go_enter Tryz.func34, Tryz.ntmps34
    go_wp2
    go_ret
    exact ⟨_, rfl, qo_nil _ _, rfl, .refl _ _⟩
  · have hsz : l.toArray.size = l.length := by simp
    have hget : ∀ i, i < l.length → l.toArray[i]! = l.getD i 0 := by
      intro i hi
      rw [getElem!_pos _ i (by simpa using hi), List.getElem_toArray, List.getD_eq_getElem?_getD, List.getElem?_eq_getElem hi]
      rfl
    obtain rfl := hv
    have hH : Sort.Holds encU w g 0 l.toArray := by
      intro i hi
      rw [hsz] at hi
      refine ⟨?_, by simp [World.frozen?, hh]⟩
      obtain ⟨g2, off, cap2, hv2, -, -, -, hc⟩ := hqu.some (by omega)
      simp only [Value.slice.injEq, Option.some.injEq, Addr.mk.injEq, and_true] at hv2
      obtain ⟨⟨rfl, rfl⟩, -, -⟩ := hv2
      rw [hc i hi, hget i hi]
      rfl
    obtain ⟨i0, hi0, hz0, hz1, -⟩ := info_parts info64
    have hc := AnyE.slices_Delete delU_lays encU (fun _ => rfl) 0 Tryz.zeroValue30 i0 hi0 hz1 g 0 cap 0 j l.toArray w hH (by rw [hsz]; exact h2) (by unfold maxLen at h3; exact h3) (Nat.zero_le _) (by rw [hsz]; exact hj)
    change Calls Tryz.prog 34 _ _ _ at hc
    rw [hsz] at hc
    refine hc.mono ?_
    rintro e w' ⟨rfl, q, rfl⟩
    obtain ⟨ys, hys⟩ : ∃ ys, ys = l.toArray.toList.take 0 ++ l.toArray.toList.drop j ++ List.replicate (j - 0) 0 := ⟨_, rfl⟩
    rw [← hys]
    have hyl : ys.length = l.length := by rw [hys]; simp; omega
    have hyt : ys.take (l.length - j) = l.drop j := by
      rw [hys, List.take_zero, List.nil_append]
      exact List.take_left' (by simp)
    have hrow := Lib.ownsRow_putRow (enc := encU) (q := q) (k := l.length - j) (zs := l) (ys := ys) hq hyl (by omega)
    rw [hyt] at hrow
    refine ⟨_, rfl, ?_, rfl, ?_⟩
    · show World.ownsRow _ _ _ _ _ _ _
      rw [List.length_drop, Nat.sub_zero]
      exact hrow
    · refine ⟨rfl, rfl, rfl, ?_, fun i hi hn => ?_⟩
      · simp [Sort.putRow, Sort.mapBlock, Sort.ahead]
      · have hne : ¬ g = i := fun e => hn (by rw [e]; rfl)
        simp [Sort.putRow, Sort.mapBlock, Sort.ahead, Array.getElem?_modify, hne]
end Go.Proofs.YtafpjcobagofcaaGreat
