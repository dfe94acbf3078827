/- Parts of a proof. Conditions: as each row says. -/
import Derived.Test.YtbpodmallknhfaaGreatAr03
import Derived.Maps.AppendAt
import Derived.Laws.OwnMore
import Derived.Lib.AppendZerosOnto
namespace Go.Proofs.YtbpodmallknhfaaGreat
open Go.RowKit
theorem zc_list (k : Nat) : (Builtin.zeroCells (Value.int .u8 0).cells k).toList = bytesV (List.replicate k 0) := by
  have e : Builtin.zeroCells (Value.int .u8 0).cells k = madeCells #[Value.int .u8 0] (k * 1) := rfl
  unfold bytesV
  rw [List.map_replicate, e, toList_madeCells_one, Nat.mul_one]
  rfl
theorem run_append_zerosG {w : World} {base : Nat} {v : Value} {l : List Nat} (hO : Own base w v l) (h0 : 0 < l.length) (k : Nat) (hk : l.length + k ≤ 1000000) (hbase : base ≤ w.heap.size) (ty : TypeId) :
    ∃ v' w', (Builtin.append_ #[57, 3] ty #[v, .int .i64 (k : Int)]).run Tryz.prog w = .ok v' w' ∧ Own base w' v' (l ++ List.replicate k 0) ∧ Below base w w' ∧ w.grownBy w' v.ownBlock := by
  obtain ⟨i0, hi, hz0, hz1, hz2⟩ := info_parts info5
  have hsm : ∀ x ∈ l ++ List.replicate k 0, x < 256 := by
    intro y hy
    rcases List.mem_append.1 hy with hy | hy
    · exact hO.small y hy
    · rw [(List.mem_replicate.1 hy).2]; decide
  have hll : (l ++ List.replicate k 0).length = l.length + k := by simp
  have hw : IntKind.i64.wrap (k : Int) = k := by rw [IntKind.wrap_i64]; omega
  have hneg : ¬ ((k : Int) < 0) := by omega
  have h48i : ¬ (281474976710656 < (k : Int) * (i0.bytes : Int)) := by rw [hz2]; omega
  rcases hO.own.2 with ⟨_, e⟩ | ⟨g, cap, cur, hv, hg, hh, h3, h4, h5, h6⟩
  · omega
  · subst hv
    rw [Nat.mul_one] at h5 h6
    by_cases hroom : l.length + k ≤ cap
    · refine ⟨.slice (some ⟨g, 0, none⟩) (l.length + k) cap, w.setRow g (cur.toList.take l.length ++ bytesV (List.replicate k 0) ++ cur.toList.drop (l.length + (bytesV (List.replicate k 0)).length)).toArray, ?_, ⟨?_, hsm, by rw [hll]; omega⟩, ?_, ?_⟩
      · have hst := run_storeCells_at Tryz.prog g l.length 5 (bytesV (List.replicate k 0)) 0 cur w hh (by rw [bytesV_length, List.length_replicate]; omega) (fun v hv => by
          simp only [bytesV, List.mem_map] at hv
          obtain ⟨y, _, rfl⟩ := hv
          rfl)
        simp only [Nat.add_zero] at hst
        by_cases hk0 : k = 0
        · subst hk0
          have hw0 : IntKind.i64.wrap 0 = 0 := by rw [IntKind.wrap_i64]; rfl
          have hst0 : (storeCells ⟨g, l.length, none⟩ []).run Tryz.prog w = .ok () (w.setRow g cur) := by simpa [bytesV] using hst
          rw [Nat.add_zero] at hroom
          simp [Builtin.append_, run_underlying Tryz.underlying57, run_underlying Tryz.underlying3, sizeOf, typeInfo, hi, hz1, asInt, asIntOf, hw0, hroom, Addr.add_lit, hst0, bytesV]
        · have hzl := zc_list k
          simp [Builtin.append_, run_underlying Tryz.underlying57, run_underlying Tryz.underlying3, sizeOf, typeInfo, zeroValue, hi, hz0, hz1, asInt, asIntOf, hw, hneg, h48i, hk0, hroom, Addr.add_lit, hzl, hst]
      · refine ⟨by rw [bytesV_length, Nat.mul_one], Or.inr ⟨g, cap, _, by rw [hll], hg, setRow_heap w g cur _ 5 _ hh, by rw [hll]; exact hroom, h4, ?_, ?_⟩⟩
        · simp only [List.size_toArray, List.length_append, List.length_take, List.length_drop, Array.length_toList, bytesV_length, List.length_replicate]
          omega
        · rw [h6, hll, Nat.mul_one]
          have e : bytesV (l ++ List.replicate k 0) = bytesV l ++ bytesV (List.replicate k 0) := by simp [bytesV]
          rw [e]
          exact List.take_left' (by rw [List.length_append, bytesV_length, bytesV_length, List.length_replicate])
      · exact (Below.refl _ _).grown ⟨rfl, rfl, rfl, by simp [World.setRow], fun k' _ hr => setRow_other w g k' _ (fun e => hr (by rw [e]))⟩ hbase (fun i hi => by cases hi; exact hg)
      · exact ⟨rfl, rfl, rfl, by simp [World.setRow], fun k' _ hr => setRow_other w g k' _ (fun e => hr (by rw [e]; rfl))⟩
    · have hold : (Builtin.firstCells i0.size l.length (.slice (some ⟨g, 0, none⟩) l.length cap)).run Tryz.prog w.drew = .ok (bytesV l).toArray w.drew := by
        have := run_firstCells_some (P := Tryz.prog) w.drew i0.size l.length ⟨g, 0, none⟩ l.length cap (bytesV l) (by rw [bytesV_length, hz1]; omega) (fun j u hj => hO.own.cells (g := g) rfl j u hj)
        exact this
      have hr := Lib.run_append_grow_zeros (P := Tryz.prog) w 57 3 ty 5 i0 (.int .u8 0) .i64 .i64 Tryz.underlying57 Tryz.underlying3 hi hz0 (some ⟨g, 0, none⟩) l.length cap (bytesV l) hold k (by omega) (by rw [hz1]; decide) (by omega) (by omega) (by rw [hz2]; omega) (growslice_fits (by omega) (by rw [hz2]; omega))
      refine ⟨_, _, hr, ⟨?_, hsm, by rw [hll]; omega⟩, ?_, ?_⟩
      · have hge := grownCap_ge w (l.length + k) cap 5
        have hcm : grownCap w (l.length + k) cap 5 ≤ maxLen := grownCap_le_maxLen w (l.length + k) cap 5 (by unfold maxLen; omega)
        refine ⟨by rw [bytesV_length, Nat.mul_one], Or.inr ⟨w.heap.size, _, _, by rw [hll], hbase, heap_alloc_new w.drew _, by rw [hll]; exact hge, hcm, ?_, ?_⟩⟩
        · simp only [Array.size_append, List.size_toArray, size_zeroCells, bytesV_length]
          show l.length + k * 1 + _ * 1 = _
          omega
        · simp only [Array.toList_append, zc_list, List.append_assoc, hll, Nat.mul_one]
          have e : bytesV (l ++ List.replicate k 0) = bytesV l ++ bytesV (List.replicate k 0) := by simp [bytesV]
          rw [e, ← List.append_assoc]
          exact List.take_left' (by rw [List.length_append, bytesV_length, bytesV_length, List.length_replicate])
      · exact ⟨rfl, rfl, rfl, by simp, fun k' hk' => heap_alloc_old w.drew _ (Nat.lt_of_lt_of_le hk' hbase)⟩
      · exact ⟨rfl, rfl, rfl, by simp, fun k' hk' _ => heap_alloc_old w.drew _ hk'⟩
theorem run_append_zeros {w : World} {base : Nat} {v : Value} {l : List Nat} (hO : Own base w v l) (h0 : 0 < l.length) (k : Nat) (hk : l.length + k ≤ 1000000) (hbase : base ≤ w.heap.size) (ty : TypeId) :
    ∃ v' w', (Builtin.append_ #[57, 3] ty #[v, .int .i64 (k : Int)]).run Tryz.prog w = .ok v' w' ∧ Own base w' v' (l ++ List.replicate k 0) ∧ Below base w w' := by
  obtain ⟨v', w', h1, h2, h3, -⟩ := run_append_zerosG hO h0 k hk hbase ty
  exact ⟨v', w', h1, h2, h3⟩
end Go.Proofs.YtbpodmallknhfaaGreat
