/- Bytes appended to what the call owns: where the new slice lies; and noughts by their number. Conditions: the room. -/
import Derived.Test.YtafpjcobagofcaaGreatBase
import Derived.Maps.AppendAt
import Derived.Laws.OwnMore
import Derived.Lib.AppendZerosOnto
namespace Go.Proofs.YtafpjcobagofcaaGreat
open Go.RowKit

/-- Bytes appended to what the call owns, as one operation; and where they lie. -/
theorem wp_append_At {w : World} {o : Oper} {a : Act} {K : Act → World → Prop} {Q : Exit → Act → World → Prop} (s x : Operand)
    (ho : o.op = .call { callee := .builtin .append, args := #[s, x], argTypes := #[36, 36] })
    (base : Nat) (v : Value) (l1 : List Nat) (hs : a.eval s = v) (hown : Own base w v l1)
    (xv : Value) (l2 : List Nat) (hx : a.eval x = xv) (hB : Bts w xv l2) (hlen : l1.length + l2.length ≤ 140737488355328) (hbase : base ≤ w.heap.size)
    (h : ∀ v' w', Own base w' v' (l1 ++ l2) → Below base w w' → w.grownBy w' v.ownBlock → (v'.ownBlock = v.ownBlock ∨ v'.ownBlock = some w.heap.size) → K (a.put o.dst v') w') : o.wp Tryz.prog a w K Q := by
  obtain ⟨i0, hi, hz0, hz1, hz2⟩ := info_parts info5
  have hsm : ∀ x ∈ l1 ++ l2, x < 256 := by
    intro y hy
    rcases List.mem_append.1 hy with hy | hy
    · exact hown.small y hy
    · exact hB.small y hy
  have hb : bytesV l1 ++ bytesV l2 = bytesV (l1 ++ l2) := by simp [bytesV]
  obtain ⟨p, cap, rfl, _, hn, hp⟩ := hB.form
  cases p with
  | none =>
    obtain rfl := hn rfl
    have hl0 : l2.length = 0 := by
      rcases Nat.eq_zero_or_pos l2.length with h0 | h0
      · exact h0
      · obtain ⟨b, off, he, _⟩ := hp h0; simp at he
    obtain rfl : l2 = [] := List.eq_nil_of_length_eq_zero hl0
    have hrun := run_append_owned_none (P := Tryz.prog) (w := w) base 36 o.type 5 i0 1 Tryz.underlying36 hi v l1.length (bytesV l1) hown.own
    have hx' : a.eval x = .slice none 0 0 := hx
    have hk := h v w (by simpa using hown) (Below.refl _ _) (grownBy_refl _ _) (Or.inl rfl)
    unfold Oper.wp
    simp [execOp, ho, resolve, invoke, builtin, hs, hx', hrun, Result.andThen]
    exact hk
  | some ad =>
    obtain ⟨v', w', hr, hown', hgrow, -, hat⟩ := run_append_own_at (P := Tryz.prog) w base 36 o.type 5 i0 (.int .u8 0) 1 1 Tryz.underlying36 hi hz0 hz1 hz2 rfl (by decide) v l1.length (bytesV l1) hown.own ad l2.length cap (bytesV l2) (by simp [bytesV]) (fun j u hj => by
        have hjl : j < l2.length := by
          rcases Nat.lt_or_ge j l2.length with h1 | h1
          · exact h1
          · rw [List.getElem?_eq_none (by simpa [bytesV] using h1)] at hj; simp at hj
        obtain ⟨b, off, he, hc⟩ := hp (by omega)
        obtain rfl := Option.some.inj he
        have hadd : (⟨b, off, none⟩ : Addr).add j = ⟨b, off + j, none⟩ := by unfold Addr.add; split <;> simp_all
        rw [hadd, hc j hjl, ← hj]
        simp [bytesV, List.getElem?_eq_getElem hjl]) (fun u hu => by
        simp only [bytesV, List.mem_map] at hu
        obtain ⟨y, _, rfl⟩ := hu
        rfl) (by unfold maxLen; omega) (by omega) hbase
    rw [hb, ← List.length_append] at hown'
    have hk := h v' w' ⟨hown', hsm, by simp; omega⟩ ((Below.refl _ _).grown hgrow hbase (fun k hk => by
      rcases hown.own.2 with ⟨rfl, _⟩ | ⟨g, c, cur, rfl, hg, _⟩
      · simp [Value.ownBlock] at hk
      · simp only [Value.ownBlock, Option.some.injEq] at hk
        omega)) hgrow hat
    unfold Oper.wp
    simp [execOp, ho, resolve, invoke, builtin, hs, hx, hr, Result.andThen]
    exact hk

theorem zc_list (k : Nat) : (Builtin.zeroCells (Value.int .u8 0).cells k).toList = bytesV (List.replicate k 0) := by
  have e : Builtin.zeroCells (Value.int .u8 0).cells k = madeCells #[Value.int .u8 0] (k * 1) := rfl
  unfold bytesV
  rw [List.map_replicate, e, toList_madeCells_one, Nat.mul_one]
  rfl

/-- So many noughts appended to bytes of the call's own. -/
theorem run_append_zeros {w : World} {base : Nat} {v : Value} {l : List Nat} (hO : Own base w v l) (h0 : 0 < l.length) (k : Nat) (hk : l.length + k ≤ 1000000) (hbase : base ≤ w.heap.size) (ty : TypeId) :
    ∃ v' w', (Builtin.append_ #[36, 3] ty #[v, .int .i64 (k : Int)]).run Tryz.prog w = .ok v' w' ∧ Own base w' v' (l ++ List.replicate k 0) ∧ Below base w w' := by
  obtain ⟨i0, hi, hz0, hz1, hz2⟩ := info_parts info5
  have hsm : ∀ x ∈ l ++ List.replicate k 0, x < 256 := by
    intro y hy
    rcases List.mem_append.1 hy with hy | hy
    · exact hO.small y hy
    · rw [(List.mem_replicate.1 hy).2]; decide
  have hll : (l ++ List.replicate k 0).length = l.length + k := by simp
  have hw : IntKind.i64.wrap (k : Int) = k := by rw [IntKind.wrap_i64]; omega
  have hneg : ¬ ((k : Int) < 0) := by omega
  have h48i : ¬ (281474976710656 < (k : Int) * (i0.bytes : Int)) := by rw [hz2]; omega
  rcases hO.own.2 with ⟨_, e⟩ | ⟨g, cap, cur, hv, hg, hh, h3, h4, h5, h6⟩
  · omega
  · subst hv
    rw [Nat.mul_one] at h5 h6
    by_cases hroom : l.length + k ≤ cap
    · refine ⟨.slice (some ⟨g, 0, none⟩) (l.length + k) cap, w.setRow g (cur.toList.take l.length ++ bytesV (List.replicate k 0) ++ cur.toList.drop (l.length + (bytesV (List.replicate k 0)).length)).toArray, ?_, ⟨?_, hsm, by rw [hll]; omega⟩, ?_⟩
      · have hst := run_storeCells_at Tryz.prog g l.length 5 (bytesV (List.replicate k 0)) 0 cur w hh (by rw [bytesV_length, List.length_replicate]; omega) (fun v hv => by
          simp only [bytesV, List.mem_map] at hv
          obtain ⟨y, _, rfl⟩ := hv
          rfl)
        simp only [Nat.add_zero] at hst
        by_cases hk0 : k = 0
        · subst hk0
          have hw0 : IntKind.i64.wrap 0 = 0 := by rw [IntKind.wrap_i64]; rfl
          have hst0 : (storeCells ⟨g, l.length, none⟩ []).run Tryz.prog w = .ok () (w.setRow g cur) := by simpa [bytesV] using hst
          rw [Nat.add_zero] at hroom
          simp [Builtin.append_, run_underlying Tryz.underlying36, run_underlying Tryz.underlying3, sizeOf, typeInfo, hi, hz1, asInt, asIntOf, hw0, hroom, Addr.add_lit, hst0, bytesV]
        · have hzl := zc_list k
          simp [Builtin.append_, run_underlying Tryz.underlying36, run_underlying Tryz.underlying3, sizeOf, typeInfo, zeroValue, hi, hz0, hz1, asInt, asIntOf, hw, hneg, h48i, hk0, hroom, Addr.add_lit, hzl, hst]
      · refine ⟨by rw [bytesV_length, Nat.mul_one], Or.inr ⟨g, cap, _, by rw [hll], hg, setRow_heap w g cur _ 5 _ hh, by rw [hll]; exact hroom, h4, ?_, ?_⟩⟩
        · simp only [List.size_toArray, List.length_append, List.length_take, List.length_drop, Array.length_toList, bytesV_length, List.length_replicate]
          omega
        · rw [h6, hll, Nat.mul_one]
          have e : bytesV (l ++ List.replicate k 0) = bytesV l ++ bytesV (List.replicate k 0) := by simp [bytesV]
          rw [e]
          exact List.take_left' (by rw [List.length_append, bytesV_length, bytesV_length, List.length_replicate])
      · exact (Below.refl _ _).grown ⟨rfl, rfl, rfl, by simp [World.setRow], fun k' _ hr => setRow_other w g k' _ (fun e => hr (by rw [e]))⟩ hbase (fun i hi => by cases hi; exact hg)
    · have hold : (Builtin.firstCells i0.size l.length (.slice (some ⟨g, 0, none⟩) l.length cap)).run Tryz.prog w.drew = .ok (bytesV l).toArray w.drew := by
        have := run_firstCells_some (P := Tryz.prog) w.drew i0.size l.length ⟨g, 0, none⟩ l.length cap (bytesV l) (by rw [bytesV_length, hz1]; omega) (fun j u hj => hO.own.cells (g := g) rfl j u hj)
        exact this
      have hr := Lib.run_append_grow_zeros (P := Tryz.prog) w 36 3 ty 5 i0 (.int .u8 0) .i64 .i64 Tryz.underlying36 Tryz.underlying3 hi hz0 (some ⟨g, 0, none⟩) l.length cap (bytesV l) hold k (by omega) (by rw [hz1]; decide) (by omega) (by omega) (by rw [hz2]; omega) (growslice_fits (by omega) (by rw [hz2]; omega))
      refine ⟨_, _, hr, ⟨?_, hsm, by rw [hll]; omega⟩, ?_⟩
      · have hge := grownCap_ge w (l.length + k) cap 5
        have hcm : grownCap w (l.length + k) cap 5 ≤ maxLen := grownCap_le_maxLen w (l.length + k) cap 5 (by unfold maxLen; omega)
        refine ⟨by rw [bytesV_length, Nat.mul_one], Or.inr ⟨w.heap.size, _, _, by rw [hll], hbase, heap_alloc_new w.drew _, by rw [hll]; exact hge, hcm, ?_, ?_⟩⟩
        · simp only [Array.size_append, List.size_toArray, size_zeroCells, bytesV_length]
          show l.length + k * 1 + _ * 1 = _
          omega
        · simp only [Array.toList_append, zc_list, List.append_assoc, hll, Nat.mul_one]
          have e : bytesV (l ++ List.replicate k 0) = bytesV l ++ bytesV (List.replicate k 0) := by simp [bytesV]
          rw [e, ← List.append_assoc]
          exact List.take_left' (by rw [List.length_append, bytesV_length, bytesV_length, List.length_replicate])
      · exact ⟨rfl, rfl, rfl, by simp, fun k' hk' => heap_alloc_old w.drew _ (Nat.lt_of_lt_of_le hk' hbase)⟩
end Go.Proofs.YtafpjcobagofcaaGreat
