/- Parts of a proof. Conditions: as each row says. -/
import Derived.Test.YtbpodmallknhfaaGreatRows
import Derived.WalkKit
import Derived.WalkSpells
import Derived.WalkLawsBesides
import Derived.Lib.Hide
import Derived.Deep.WholeRow
import Derived.Laws.AppendOwnNone
import Derived.Laws.MakeOwn
import Derived.OneCell
import Derived.OwnWalk
import Derived.Deep.DeepCutAuto
import Derived.Laws.BitsAllLaws
import Derived.Lib.SlBytesConst
import Derived.ProofKit
import Derived.SizedLaws
import Derived.OpenShut
import Derived.Below
import Derived.Orders
import Derived.Tactics
import Derived.KernelRfl
import Derived.Laws.Tables
import Derived.Laws.Rows
namespace Go.Proofs.YtbpodmallknhfaaGreat
open Go.RowKit
theorem ret_int {k : IntKind} {a b : Int} (h : a = b) : Ending.returned (.int k a) = .returned (.int k b) := by rw [h]
structure Bts (w : World) (v : Value) (l : List Nat) : Prop where
  form : ∃ p cap, v = .slice p l.length cap ∧ (l.length ≤ cap ∧ cap ≤ 9223372036854775807) ∧ (p = none → cap = 0) ∧ (0 < l.length → ∃ b off, p = some ⟨b, off, none⟩ ∧ ∀ i, i < l.length → w.cell? ⟨b, off + i, none⟩ = some (.int .u8 (l.getD i 0 : Nat)))
  small : ∀ x ∈ l, x < 256
  len : l.length ≤ 140737488355328
theorem Bts.getD {w : World} {v : Value} {l : List Nat} (h : Bts w v l) (i : Nat) : l.getD i 0 < 256 := by
  rcases Nat.lt_or_ge i l.length with hi | hi
  · have := h.small (l.getD i 0) (by rw [List.getD_eq_getElem?_getD, List.getElem?_eq_getElem hi]; simp)
    exact this
  · rw [List.getD_eq_getElem?_getD, List.getElem?_eq_none hi]; decide
theorem Bts.below {w w' : World} {v : Value} {l : List Nat} (h : Bts w v l) (hb : Below w.heap.size w w') : Bts w' v l := by
  obtain ⟨p, cap, hv, hr, hn, hp⟩ := h.form
  refine ⟨⟨p, cap, hv, hr, hn, fun h0 => ?_⟩, h.small, h.len⟩
  obtain ⟨b, off, hpe, hc⟩ := hp h0
  refine ⟨b, off, hpe, fun i hi => ?_⟩
  have hci := hc i hi
  rw [hb.cell (p := ⟨b, off + i, none⟩) (block_lt_of_cell hci)]
  exact hci
theorem Bts.take {w : World} {p : Option Addr} {cap : Nat} {l : List Nat} (h : Bts w (.slice p l.length cap) l) (n : Nat) (hn : n ≤ l.length) : Bts w (.slice p n cap) (l.take n) := by
  obtain ⟨p', cap', hv, hr, hz, hp⟩ := h.form
  simp only [Value.slice.injEq] at hv
  obtain ⟨rfl, -, rfl⟩ := hv
  have hl : (l.take n).length = n := by simp; omega
  refine ⟨⟨p, cap, by rw [hl], ⟨by omega, hr.2⟩, hz, fun h0 => ?_⟩, fun x hx => h.small x (List.mem_of_mem_take hx), by have := h.len; omega⟩
  obtain ⟨b, off, hpe, hc⟩ := hp (by omega)
  refine ⟨b, off, hpe, fun i hi => ?_⟩
  rw [hc i (by omega)]
  have : (l.take n).getD i 0 = l.getD i 0 := by
    simp only [List.getD_eq_getElem?_getD]
    rw [List.getElem?_take, if_pos (by omega)]
  rw [this]
theorem Bts.mem_take {w : World} {v : Value} {l : List Nat} (h : Bts w v l) (k : Nat) : ∀ x ∈ l.take k, x < 256 := fun x hx => h.small x (List.mem_of_mem_take hx)
theorem take_succ_getD (l : List Nat) (k : Nat) (h : k < l.length) : l.take (k + 1) = l.take k ++ [l.getD k 0] := by
  rw [List.take_succ_eq_append_getElem h, List.getD_eq_getElem?_getD, List.getElem?_eq_getElem h]; rfl
theorem info5 : (Tryz.prog.info? 5).map (fun i => (i.zero, i.size, i.bytes)) = some (some (.int .u8 0), 1, 1) := by kernel_rfl
def bytesV (l : List Nat) : List Value := l.map fun x : Nat => Value.int .u8 (x : Int)
theorem bytesV_length (l : List Nat) : (bytesV l).length = l.length := by simp [bytesV]
theorem owns_cells {w : World} {base g cap n : Nat} {l : List Nat} (h : w.ownsRow base 5 1 (.slice (some ⟨g, 0, none⟩) n cap) n (bytesV l)) :
    base ≤ g ∧ n ≤ cap ∧ cap ≤ maxLen ∧ l.length = n ∧ ∀ i, i < l.length → w.cell? ⟨g, i, none⟩ = some (.int .u8 (l.getD i 0 : Nat)) := by
  obtain ⟨h1, h2⟩ := h
  rcases h2 with ⟨h2, _⟩ | ⟨g', cap', cur, hv, hg, hh, h3, h4, h5, h6⟩
  · simp at h2
  · simp only [Value.slice.injEq, Option.some.injEq, Addr.mk.injEq] at hv
    obtain ⟨⟨rfl, -, -⟩, -, rfl⟩ := hv
    have hln : l.length = n := by simpa [bytesV] using h1
    refine ⟨hg, h3, h4, hln, fun i hi => ?_⟩
    rw [cell_of_row _ g i cur 5 (0, 0) hh]
    have hi2 : (cur.toList.take (n * 1))[i]? = (bytesV l)[i]? := by rw [h6]
    rw [List.getElem?_take, if_pos (by omega)] at hi2
    rw [← Array.getElem?_toList, hi2]
    simp [bytesV, List.getElem?_eq_getElem hi]
theorem bts_owned {w : World} {base : Nat} {v : Value} {l : List Nat} (h : w.ownsRow base 5 1 v l.length (bytesV l)) (hs : ∀ x ∈ l, x < 256) (hl : l.length ≤ 140737488355328) : Bts w v l := by
  rcases h.2 with ⟨hv, h0⟩ | ⟨g, cap, cur, hv, _⟩
  · subst hv
    exact ⟨⟨none, 0, by rw [h0], by omega, fun _ => rfl, fun h => absurd h (by omega)⟩, hs, hl⟩
  · subst hv
    obtain ⟨_, h2, h3, _, h5⟩ := owns_cells h
    refine ⟨⟨some ⟨g, 0, none⟩, cap, rfl, ⟨h2, by unfold maxLen at h3; exact h3⟩, fun h => by simp at h, fun _ => ⟨g, 0, rfl, fun i hi => ?_⟩⟩, hs, hl⟩
    rw [Nat.zero_add]
    exact h5 i hi
theorem bts_alloc (w : World) (l : List Nat) (cap : Nat) (hcap : l.length ≤ cap ∧ cap ≤ 9223372036854775807) (t : TypeId) (fr : Nat × Nat) (hs : ∀ x ∈ l, x < 256) (hl : l.length ≤ 140737488355328) :
    Bts (w.alloc (.cells (l.map fun x : Nat => Value.int .u8 (x : Int)).toArray t fr)) (.slice (some ⟨w.heap.size, 0, none⟩) l.length cap) l := by
  refine ⟨⟨_, cap, rfl, hcap, (fun h => by simp at h), fun _ => ⟨w.heap.size, 0, rfl, fun i hi => ?_⟩⟩, hs, hl⟩
  rw [cell_of_row _ w.heap.size (0 + i) _ t fr (heap_alloc_last _ _)]
  simp [List.getElem?_eq_getElem hi]
theorem strOf_conv {w : World} {v : Value} {l : List Nat} (hB : Bts w v l) :
    (convert 57 9 v).run Tryz.prog w = .ok (.string (strOfNums (l.map fun x : Nat => (x : Int)))) w := by
  obtain ⟨p, cap, rfl, _, hn, hp⟩ := hB.form
  rcases Nat.eq_zero_or_pos l.length with h0 | h0
  · obtain rfl : l = [] := List.eq_nil_of_length_eq_zero h0
    cases p with
    | none => exact run_convert_bytes_nil w 57 5 Tryz.underlying57 Tryz.underlying5 _ _ _ Tryz.underlying9
    | some ad =>
      have h := run_convert_bytes_string (P := Tryz.prog) w 57 9 5 (some ad) 0 cap Tryz.underlying57 Tryz.underlying5 Tryz.underlying9
      have h2 := run_bytesToString (P := Tryz.prog) w ad 0 cap [] (by rfl)
      rw [h2] at h
      exact h
  · obtain ⟨b, off, rfl, hc⟩ := hp h0
    refine run_convert_bytes_arg w 57 5 Tryz.underlying57 Tryz.underlying5 b off l.length cap (l.map fun x : Nat => (x : Int)) (by simp) (fun i hi => ?_) _ Tryz.underlying9
    rw [hc i hi]
    simp [List.getElem?_eq_getElem hi]
theorem grownBy_refl (w : World) (row : Option Nat) : w.grownBy w row := ⟨rfl, rfl, rfl, Nat.le_refl _, fun _ _ _ => rfl⟩
theorem grownBy_trans {a b c : World} {row : Option Nat} (h : a.grownBy b row) (k : b.grownBy c row) : a.grownBy c row :=
  ⟨k.os.trans h.os, k.tape.trans h.tape, k.output.trans h.output, Nat.le_trans h.size k.size, fun i hi hr => (k.block i (Nat.lt_of_lt_of_le hi h.size) hr).trans (h.block i hi hr)⟩
theorem grownBy_below {a b : World} (h : Below a.heap.size a b) (row : Option Nat) : a.grownBy b row := ⟨h.os, h.tape, h.output, h.size, fun k hk _ => h.block k hk⟩
theorem grownBy_setCell (w : World) (B o : Nat) (u : Value) : w.grownBy (w.setCell ⟨B, o, none⟩ u) (some B) :=
  ⟨rfl, rfl, rfl, by simp [World.setCell], fun k _ hr => Below.heap_setCell _ _ _ _ (fun e => hr (by rw [e]))⟩
theorem grownBy_drew (w : World) (row : Option Nat) : w.grownBy w.drew row := ⟨rfl, rfl, rfl, Nat.le_refl _, fun _ _ _ => rfl⟩
theorem below_grown {B0 B : Nat} {a b c : World} (h : Below B0 a b) (k : b.grownBy c (some B)) (h0 : B0 ≤ b.heap.size) (hB : B0 ≤ B) : Below B0 a c :=
  h.grown k h0 (fun i hi => by cases hi; exact hB)
theorem Bts.grown {w w' : World} {v : Value} {l : List Nat} {row : Option Nat} (h : Bts w v l) (hg : w.grownBy w' row) (hne : 0 < l.length → v.ownBlock ≠ row) : Bts w' v l := by
  obtain ⟨p, cap, hv, hr, hn, hp⟩ := h.form
  refine ⟨⟨p, cap, hv, hr, hn, fun h0 => ?_⟩, h.small, h.len⟩
  obtain ⟨b, off, hpe, hc⟩ := hp h0
  refine ⟨b, off, hpe, fun i hi => ?_⟩
  refine hg.cell (hc i hi) ?_
  have := hne h0
  rw [hv, hpe] at this
  exact this
theorem Bts.drop {w : World} {b off cap : Nat} {l : List Nat} (h : Bts w (.slice (some ⟨b, off, none⟩) l.length cap) l) (n : Nat) (hn : n ≤ l.length) : Bts w (.slice (some ⟨b, off + n, none⟩) (l.length - n) (cap - n)) (l.drop n) := by
  obtain ⟨p', cap', hv, hr, hz, hp⟩ := h.form
  simp only [Value.slice.injEq] at hv
  obtain ⟨rfl, -, rfl⟩ := hv
  have hl : (l.drop n).length = l.length - n := by simp
  refine ⟨⟨_, _, by rw [hl], ⟨by omega, by omega⟩, (fun h => by simp at h), fun h0 => ?_⟩, fun x hx => h.small x (List.mem_of_mem_drop hx), by have := h.len; omega⟩
  obtain ⟨b', off', hpe, hc⟩ := hp (by omega)
  simp only [Option.some.injEq, Addr.mk.injEq] at hpe
  obtain ⟨rfl, rfl, -⟩ := hpe
  refine ⟨b, off + n, rfl, fun i hi => ?_⟩
  rw [show off + n + i = off + (n + i) by omega, hc (n + i) (by omega)]
  simp [List.getD_eq_getElem?_getD]
def Row (w : World) (g n : Nat) : Prop := ∃ cur : Array Value, w.heap[g]? = some (.cells cur 5 (0, 0)) ∧ n ≤ cur.size ∧ ∀ i, i < n → ∃ b : Nat, b < 256 ∧ cur[i]? = some (.int .u8 (b : Int))
theorem Row.lt {w : World} {g n : Nat} (h : Row w g n) : g < w.heap.size := by
  obtain ⟨cur, hh, _⟩ := h; exact lt_of_block hh
theorem row_owned {w : World} {base g cap n : Nat} {l : List Nat} (h : w.ownsRow base 5 1 (.slice (some ⟨g, 0, none⟩) n cap) n (bytesV l)) (hs : ∀ x ∈ l, x < 256) : Row w g n := by
  obtain ⟨h1, h2⟩ := h
  rcases h2 with ⟨h2, _⟩ | ⟨g', cap', cur, hv, hg, hh, h3, h4, h5, h6⟩
  · simp at h2
  · simp only [Value.slice.injEq, Option.some.injEq, Addr.mk.injEq] at hv
    obtain ⟨⟨rfl, -, -⟩, -, rfl⟩ := hv
    have hln : l.length = n := by simpa [bytesV] using h1
    refine ⟨cur, hh, by omega, fun i hi => ?_⟩
    have hi2 : (cur.toList.take (n * 1))[i]? = (bytesV l)[i]? := by rw [h6]
    rw [List.getElem?_take, if_pos (by omega)] at hi2
    refine ⟨l[i]'(by omega), hs _ (List.getElem_mem _), ?_⟩
    rw [← Array.getElem?_toList, hi2]
    simp [bytesV, List.getElem?_eq_getElem (show i < l.length by omega)]
structure Own (base : Nat) (w : World) (v : Value) (l : List Nat) : Prop where
  own : w.ownsRow base 5 1 v l.length (bytesV l)
  small : ∀ x ∈ l, x < 256
  len : l.length ≤ 140737488355328
theorem Own.bts {base : Nat} {w : World} {v : Value} {l : List Nat} (h : Own base w v l) : Bts w v l := bts_owned h.own h.small h.len
theorem Own.form {base : Nat} {w : World} {v : Value} {l : List Nat} (h : Own base w v l) : (v = .slice none 0 0 ∧ l = []) ∨ ∃ g cap, v = .slice (some ⟨g, 0, none⟩) l.length cap ∧ base ≤ g ∧ l.length ≤ cap ∧ cap ≤ maxLen ∧ Row w g l.length := by
  rcases h.own.2 with ⟨hv, h0⟩ | ⟨g, cap, cur, hv, hg, hh, h3, h4, h5, h6⟩
  · exact Or.inl ⟨hv, List.eq_nil_of_length_eq_zero h0⟩
  · subst hv
    exact Or.inr ⟨g, cap, rfl, hg, h3, h4, row_owned h.own h.small⟩
theorem Own.grown {base : Nat} {w w' : World} {v : Value} {l : List Nat} {row : Option Nat} (h : Own base w v l) (hg : w.grownBy w' row) (hne : v.ownBlock = none ∨ v.ownBlock ≠ row) : Own base w' v l := ⟨h.own.kept hg hne, h.small, h.len⟩
theorem Own.below {base : Nat} {w w' : World} {v : Value} {l : List Nat} (h : Own base w v l) (hb : Below w.heap.size w w') : Own base w' v l :=
  h.grown (row := none) (grownBy_below hb none) (by cases hv : v.ownBlock <;> simp)
theorem Own.from {base base' : Nat} {w : World} {v : Value} {l : List Nat} (h : Own base w v l) (hb : base' ≤ base) : Own base' w v l := by
  refine ⟨⟨h.own.1, ?_⟩, h.small, h.len⟩
  rcases h.own.2 with h2 | ⟨g, cap, cur, hv, hg, r⟩
  · exact Or.inl h2
  · exact Or.inr ⟨g, cap, cur, hv, Nat.le_trans hb hg, r⟩
theorem own_nil (base : Nat) (w : World) : Own base w (.slice none 0 0) [] := ⟨⟨rfl, Or.inl ⟨rfl, rfl⟩⟩, by simp, by decide⟩
theorem wpList_append_Own {w : World} {ops : Array Oper} {rest : List Oper} {o : Oper} {a : Act} {Q : Exit → Act → World → Prop} (hgd : o.guard = none) (s x : Operand)
    (ho : o.op = .call { callee := .builtin .append, args := #[s, x], argTypes := #[57, 57] })
    (base : Nat) (v : Value) (l1 : List Nat) (hs : a.eval s = v) (hown : Own base w v l1)
    (xv : Value) (l2 : List Nat) (hx : a.eval x = xv) (hB : Bts w xv l2) (hlen : l1.length + l2.length ≤ 140737488355328) (hbase : base ≤ w.heap.size)
    (h : ∀ v' w', Own base w' v' (l1 ++ l2) → Below base w w' → w.grownBy w' v.ownBlock → wpList Tryz.prog ops Q rest (a.put o.dst v') w') : wpList Tryz.prog ops Q (o :: rest) a w := by
  obtain ⟨i0, hi, hz0, hz1, hz2⟩ := info_parts info5
  have hsm : ∀ x ∈ l1 ++ l2, x < 256 := by
    intro y hy
    rcases List.mem_append.1 hy with hy | hy
    · exact hown.small y hy
    · exact hB.small y hy
  have hb : bytesV l1 ++ bytesV l2 = bytesV (l1 ++ l2) := by simp [bytesV]
  obtain ⟨p, cap, rfl, _, hn, hp⟩ := hB.form
  cases p with
  | none =>
    obtain rfl := hn rfl
    have hl0 : l2.length = 0 := by
      rcases Nat.eq_zero_or_pos l2.length with h0 | h0
      · exact h0
      · obtain ⟨b, off, he, _⟩ := hp h0; simp at he
    obtain rfl : l2 = [] := List.eq_nil_of_length_eq_zero hl0
    refine wpList_append_own_none hgd s x 57 ho base 5 i0 1 Tryz.underlying57 hi v l1.length (bytesV l1) hs hown.own hx ?_
    refine h v w ?_ (Below.refl _ _) (grownBy_refl _ _)
    simpa using hown
  | some ad =>
    refine wpList_append_own w hgd s x 57 ho base 5 i0 (.int .u8 0) 1 1 Tryz.underlying57 hi hz0 hz1 hz2 rfl (by decide) v l1.length (bytesV l1) hs hown.own ad l2.length cap (bytesV l2) hx (by simp [bytesV]) ?_ ?_ (by unfold maxLen; omega) (by omega) hbase ?_
    · intro j u hj
      have hjl : j < l2.length := by
        rcases Nat.lt_or_ge j l2.length with h1 | h1
        · exact h1
        · rw [List.getElem?_eq_none (by simpa [bytesV] using h1)] at hj; simp at hj
      obtain ⟨b, off, he, hc⟩ := hp (by omega)
      obtain rfl := Option.some.inj he
      have hadd : (⟨b, off, none⟩ : Addr).add j = ⟨b, off + j, none⟩ := by unfold Addr.add; split <;> simp_all
      rw [hadd, hc j hjl, ← hj]
      simp [bytesV, List.getElem?_eq_getElem hjl]
    · intro u hu
      simp only [bytesV, List.mem_map] at hu
      obtain ⟨y, _, rfl⟩ := hu
      rfl
    · intro v' w' hown' hgrow _
      rw [hb, ← List.length_append] at hown'
      refine h v' w' ⟨hown', hsm, by simp; omega⟩ ((Below.refl _ _).grown hgrow hbase ?_) hgrow
      intro k hk
      rcases hown.own.2 with ⟨rfl, _⟩ | ⟨g, c, cur, rfl, hg, _⟩
      · simp [Value.ownBlock] at hk
      · simp only [Value.ownBlock, Option.some.injEq] at hk
        omega
theorem own_empty (w : World) (base cap : Nat) (cs : Array Value) (hb : base ≤ w.heap.size) (hm : cap ≤ maxLen) (hs : cs.size = cap * 1) : Own base (w.alloc (.cells cs 5)) (.slice (some ⟨w.heap.size, 0, none⟩) 0 cap) [] :=
  ⟨World.ownsRow_made w cs cap hb hm hs, by simp, by decide⟩
theorem wpList_make_Own {w : World} {ops : Array Oper} {rest : List Oper} {o : Oper} {a : Act} {Q : Exit → Act → World → Prop} (hgd : o.guard = none) (x c : Operand)
    (hop : o.op = Op.makeSlice 57 x c) (base : Nat) (kl kc : IntKind) (C : Int) (n : Nat) (hl : a.eval x = .int kl 0) (hc : a.eval c = .int kc C) (hC : C = (n : Int)) (hn : n ≤ 140737488355328) (hbase : base ≤ w.heap.size)
    (h : ∀ v' w', Own base w' v' [] → Below base w w' → wpList Tryz.prog ops Q rest (a.put o.dst v') w') : wpList Tryz.prog ops Q (o :: rest) a w := by
  obtain ⟨i0, hi, hz0, hz1, hz2⟩ := info_parts info5
  refine wpList_make_own w hgd x c 57 hop base 5 i0 (.int .u8 0) 1 Tryz.underlying57 hi hz0 hz1 kl kc C n hl hc hC (by rw [hz2]; omega) (by unfold maxLen; omega) hbase ?_
  intro w' hown hg
  exact h _ w' ⟨hown, by simp, by decide⟩ ((Below.refl _ _).grown hg hbase (fun k hk => by cases hk))
theorem wpList_append_byte {w : World} {ops : Array Oper} {rest : List Oper} {o : Oper} {a : Act} {Q : Exit → Act → World → Prop} {z : Int} (hgd : o.guard = none) (s x : Operand)
    (ho : o.op = .call { callee := .builtin .append, args := #[s, x], argTypes := #[57, 57] })
    (base : Nat) (v : Value) (l : List Nat) (hs : a.eval s = v) (hown : Own base w v l)
    (hx : a.eval x = .slice (some ⟨w.heap.size, 0, none⟩) 1 1) (b : Nat) (hz : z = (b : Int)) (hb : b < 256) (hlen : l.length + 1 ≤ 140737488355328) (hbase : base ≤ w.heap.size)
    (h : ∀ v' w', Own base w' v' (l ++ [b]) → Below base w w' → wpList Tryz.prog ops Q rest (a.put o.dst v') w') : wpList Tryz.prog ops Q (o :: rest) a (w.alloc (.cells #[.int .u8 z] 5)) := by
  subst hz
  have hal : Below base w (w.alloc (.cells #[.int .u8 (b : Int)] 5)) := (Below.refl _ _).alloc hbase _
  refine wpList_append_Own hgd s x ho base v l hs (hown.below ((Below.refl _ _).alloc (Nat.le_refl _) _)) _ [b] hx (bts_alloc w [b] 1 (by simp) 5 (0, 0) (by simpa using hb) (by simp)) (by simpa using hlen) (Nat.le_trans hbase hal.size) ?_
  · intro v' w' ho' hb' _
    exact h v' w' ho' (hal.trans hb')
end Go.Proofs.YtbpodmallknhfaaGreat
namespace Go.Proofs.YtbpodmallknhfaaGreat
open Go.ChangeShapes Go.WideShapes Go.ChangeAt Go.RowKit
end Go.Proofs.YtbpodmallknhfaaGreat
namespace Go.Proofs.YtbpodmallknhfaaGreat
open Go.RowKit
theorem own_some {base : Nat} {w : World} {v : Value} {l : List Nat} (h : Own base w v l) (h0 : 0 < l.length) : ∃ g cap, v = .slice (some ⟨g, 0, none⟩) l.length cap ∧ base ≤ g ∧ g < w.heap.size ∧ l.length ≤ cap ∧ cap ≤ 9223372036854775807 ∧ Row w g l.length := by
  rcases h.form with ⟨_, ht⟩ | ⟨g, cap, hv, h1, h2, h3, h4⟩
  · rw [ht] at h0; simp at h0
  · exact ⟨g, cap, hv, h1, h4.lt, h2, by unfold maxLen at h3; exact h3, h4⟩
theorem Bts.block_lt {w : World} {v : Value} {l : List Nat} (h : Bts w v l) (h0 : 0 < l.length) : ∀ b, v.ownBlock = some b → b < w.heap.size := by
  intro b hb
  obtain ⟨p, cap, hv, _, _, hp⟩ := h.form
  obtain ⟨b', off, rfl, hc⟩ := hp h0
  rw [hv] at hb
  simp only [Value.ownBlock, Option.some.injEq] at hb
  subst hb
  exact block_lt_of_cell (hc 0 h0)
theorem wp_append_Own {w : World} {o : Oper} {a : Act} {K : Act → World → Prop} {Q : Exit → Act → World → Prop} (s x : Operand)
    (ho : o.op = .call { callee := .builtin .append, args := #[s, x], argTypes := #[57, 57] })
    (base : Nat) (v : Value) (l1 : List Nat) (hs : a.eval s = v) (hown : Own base w v l1)
    (xv : Value) (l2 : List Nat) (hx : a.eval x = xv) (hB : Bts w xv l2) (hlen : l1.length + l2.length ≤ 140737488355328) (hbase : base ≤ w.heap.size)
    (h : ∀ v' w', Own base w' v' (l1 ++ l2) → Below base w w' → w.grownBy w' v.ownBlock → K (a.put o.dst v') w') : o.wp Tryz.prog a w K Q := by
  obtain ⟨i0, hi, hz0, hz1, hz2⟩ := info_parts info5
  have hsm : ∀ x ∈ l1 ++ l2, x < 256 := by
    intro y hy
    rcases List.mem_append.1 hy with hy | hy
    · exact hown.small y hy
    · exact hB.small y hy
  have hb : bytesV l1 ++ bytesV l2 = bytesV (l1 ++ l2) := by simp [bytesV]
  obtain ⟨p, cap, rfl, _, hn, hp⟩ := hB.form
  cases p with
  | none =>
    obtain rfl := hn rfl
    have hl0 : l2.length = 0 := by
      rcases Nat.eq_zero_or_pos l2.length with h0 | h0
      · exact h0
      · obtain ⟨b, off, he, _⟩ := hp h0; simp at he
    obtain rfl : l2 = [] := List.eq_nil_of_length_eq_zero hl0
    have hrun := run_append_owned_none (P := Tryz.prog) (w := w) base 57 o.type 5 i0 1 Tryz.underlying57 hi v l1.length (bytesV l1) hown.own
    have hx' : a.eval x = .slice none 0 0 := hx
    have hk := h v w (by simpa using hown) (Below.refl _ _) (grownBy_refl _ _)
    unfold Oper.wp
    simp [execOp, ho, resolve, invoke, builtin, hs, hx', hrun, Result.andThen]
    exact hk
  | some ad =>
    refine wp_append_own w s x 57 ho base 5 i0 (.int .u8 0) 1 1 Tryz.underlying57 hi hz0 hz1 hz2 rfl (by decide) v l1.length (bytesV l1) hs hown.own ad l2.length cap (bytesV l2) hx (by simp [bytesV]) ?_ ?_ (by unfold maxLen; omega) (by omega) hbase ?_
    · intro j u hj
      have hjl : j < l2.length := by
        rcases Nat.lt_or_ge j l2.length with h1 | h1
        · exact h1
        · rw [List.getElem?_eq_none (by simpa [bytesV] using h1)] at hj; simp at hj
      obtain ⟨b, off, he, hc⟩ := hp (by omega)
      obtain rfl := Option.some.inj he
      have hadd : (⟨b, off, none⟩ : Addr).add j = ⟨b, off + j, none⟩ := by unfold Addr.add; split <;> simp_all
      rw [hadd, hc j hjl, ← hj]
      simp [bytesV, List.getElem?_eq_getElem hjl]
    · intro u hu
      simp only [bytesV, List.mem_map] at hu
      obtain ⟨y, _, rfl⟩ := hu
      rfl
    · intro v' w' hown' hgrow _
      rw [hb, ← List.length_append] at hown'
      refine h v' w' ⟨hown', hsm, by simp; omega⟩ ((Below.refl _ _).grown hgrow hbase ?_) hgrow
      intro k hk
      rcases hown.own.2 with ⟨rfl, _⟩ | ⟨g, c, cur, rfl, hg, _⟩
      · simp [Value.ownBlock] at hk
      · simp only [Value.ownBlock, Option.some.injEq] at hk
        omega
end Go.Proofs.YtbpodmallknhfaaGreat
namespace Go.Proofs.YtbpodmallknhfaaGreat.Ord
variable {P : Program}
def fill : List Oper → (Nat → Value) → Nat → Act → Act
  | [], _, _, a => a
  | o :: r, xs, k, a => fill r xs (k + 1) (a.put o.dst (xs k))
theorem put_comm (a : Act) {d d' : Option Tmp} {u v : Value} (h : ∀ x, d = some x → d' ≠ some x) : (a.put d u).put d' v = (a.put d' v).put d u := by
  cases d with
  | none => rfl
  | some x =>
    cases d' with
    | none => rfl
    | some y =>
      have hxy : x ≠ y := fun e => h x rfl (by rw [e])
      show Act.mk _ _ = Act.mk _ _
      simp only [Act.put]
      rw [Array.setIfInBounds_comm _ _ hxy]
theorem put_put (a : Act) (d : Option Tmp) (u v : Value) : (a.put d u).put d v = a.put d v := by
  cases d with
  | none => rfl
  | some x => simp [Act.put]
theorem fill_put {d : Option Tmp} {v : Value} : ∀ (l : List Oper) (xs : Nat → Value) (k : Nat) (a : Act), (∀ o ∈ l, ∀ x, o.dst = some x → d ≠ some x) → (fill l xs k a).put d v = fill l xs k (a.put d v)
  | [], _, _, _, _ => rfl
  | o :: r, xs, k, a, h => by
    rw [fill, fill, fill_put r xs (k + 1) _ (fun o' ho' => h o' (List.mem_cons_of_mem _ ho')), put_comm a (h o (List.mem_cons_self ..))]
theorem fill_congr : ∀ (l : List Oper) (xs ys : Nat → Value) (k : Nat) (a : Act), (∀ j, k ≤ j → xs j = ys j) → fill l xs k a = fill l ys k a
  | [], _, _, _, _, _ => rfl
  | o :: r, xs, ys, k, a, h => by
    rw [fill, fill, h k (Nat.le_refl _), fill_congr r xs ys (k + 1) _ (fun j hj => h j (by omega))]
def apart : List Oper → Bool
  | [] => true
  | o :: r => (match o.dst with | none => true | some x => r.all fun o' => o'.dst != some x) && apart r
def set (xs : Nat → Value) (i : Nat) (v : Value) : Nat → Value := fun j => if j = i then v else xs j
theorem fill_set : ∀ (l : List Oper) (xs : Nat → Value) (k i : Nat) (a : Act) (o : Oper) (v : Value), apart l = true → l[i]? = some o → (fill l xs k a).put o.dst v = fill l (set xs (k + i) v) k a
  | [], _, _, _, _, _, _, _, h => by simp at h
  | o' :: r, xs, k, i, a, o, v, hap, h => by
    simp only [apart, Bool.and_eq_true] at hap
    cases i with
    | zero =>
      obtain rfl : o' = o := by simpa using h
      rw [fill, fill_put r xs (k + 1) _ ?_, put_put, fill, fill_congr r xs (set xs (k + 0) v) (k + 1) _ (fun j hj => by unfold set; rw [if_neg (by omega)])]
      · congr 1
        unfold set
        rw [if_pos (by omega)]
      · intro o2 ho2 x hx hd
        have h1 := hap.1
        rw [hd] at h1
        have h2 := List.all_eq_true.1 h1 o2 ho2
        rw [hx] at h2
        simp at h2
    | succ i =>
      have h' : r[i]? = some o := by simpa using h
      rw [fill, fill_set r xs (k + 1) i _ o v hap.2 h', fill]
      have e1 : set xs (k + (i + 1)) v = set xs (k + 1 + i) v := by rw [show k + (i + 1) = k + 1 + i by omega]
      have e2 : set xs (k + (i + 1)) v k = xs k := by unfold set; rw [if_neg (by omega)]
      rw [e2, e1]
theorem put_same (a : Act) (d : Tmp) : a.put (some d) (a.tmps.getD d undef) = a := by
  obtain ⟨t, ds⟩ := a
  show Act.mk _ _ = Act.mk _ _
  congr 1
  apply Array.ext_getElem?
  intro i
  show (t.setIfInBounds d (t.getD d undef))[i]? = t[i]?
  by_cases h : d = i
  · subst h
    rcases Nat.lt_or_ge d t.size with hd | hd
    · rw [Array.getElem?_setIfInBounds_self_of_lt hd]
      simp [hd]
    · rw [Array.setIfInBounds, dif_neg (by omega)]
  · rw [Array.getElem?_setIfInBounds_ne h]
def first (a : Act) (o : Option Oper) : Value := match o.bind (·.dst) with | some d => a.tmps.getD d undef | none => undef
theorem fill_first : ∀ (l : List Oper) (xs : Nat → Value) (k : Nat) (a : Act), (∀ j, xs (k + j) = first a l[j]?) → fill l xs k a = a
  | [], _, _, _, _ => rfl
  | o :: r, xs, k, a, h => by
    have h0 : a.put o.dst (xs k) = a := by
      have := h 0
      rw [Nat.add_zero] at this
      rw [this]
      cases hd : o.dst with
      | none => rfl
      | some d => simp only [first, List.getElem?_cons_zero, Option.bind_some, hd]; exact put_same a d
    rw [fill, h0]
    refine fill_first r xs (k + 1) a fun j => ?_
    have := h (j + 1)
    rw [show k + 1 + j = k + (j + 1) by omega, this]
    simp [first]
def back : List Oper → Nat → Bool
  | [], _ => true
  | o :: r, k => (o.after.toList.all fun e => !Region.binds .any e || decide (e.on < k)) && back r (k + 1)
theorem back_spec : ∀ (l : List Oper) (k i : Nat) (o : Oper), back l k = true → l[i]? = some o → ∀ e ∈ o.after, Region.binds .any e = true → e.on < k + i
  | [], _, _, _, _, h => by simp at h
  | o' :: r, k, i, o, hb, h => by
    simp only [back, Bool.and_eq_true] at hb
    cases i with
    | zero =>
      obtain rfl : o' = o := by simpa using h
      intro e he hbd
      have := List.all_eq_true.1 hb.1 e (by simpa using he)
      rw [hbd] at this
      simpa using this
    | succ i =>
      intro e he hbd
      have := back_spec r (k + 1) i o hb.2 (by simpa using h) e he hbd
      omega
def ahead (F : Nat → Value → World → Prop) (xs : Nat → Value) (w : World) : List Edge → Prop
  | [] => True
  | e :: es => F e.on (xs e.on) w ∧ ahead F xs w es
theorem ahead_of {F : Nat → Value → World → Prop} {xs : Nat → Value} {w : World} : ∀ (es : List Edge), (∀ e ∈ es, F e.on (xs e.on) w) → ahead F xs w es
  | [], _ => trivial
  | e :: es, h => ⟨h e (List.mem_cons_self ..), ahead_of es fun e' he' => h e' (List.mem_cons_of_mem _ he')⟩
def one (P : Program) (ops : Array Oper) (Q : Exit → Act → World → Prop) (o : Oper) (K : Act → World → Prop) (a : Act) (w : World) : Prop :=
  if Region.wanted o (yielded ops a.tmps) then o.wp P a w K Q ∨ (o.asks P a w ∧ LetsOut Q) else K (a.put o.dst undef) w
def wth (D : Nat → Bool) (k : Nat) : Nat → Bool := fun j => if j = k then true else D j
def closed (l : List Oper) (D : Nat → Bool) : Prop := ∀ j o, l[j]? = some o → D j = true → ∀ e ∈ o.after, Region.binds .any e = true → D e.on = true
def waits (l : List Oper) (j i : Nat) : Bool := match l[j]? with | some o => o.after.toList.any fun e => e.on == i && Region.binds .any e | none => false
theorem closed_at {l : List Oper} {D : Nat → Bool} (h : closed l D) (j i : Nat) (hw : waits l j i = true) (hj : D j = true) : D i = true := by
  unfold waits at hw
  split at hw
  · next o ho =>
    obtain ⟨e, he, h2⟩ := List.any_eq_true.1 hw
    simp only [Bool.and_eq_true, beq_iff_eq] at h2
    rw [← h2.1]
    exact h j o ho hj e (by simpa using he) h2.2
  · cases hw
def each (P : Program) (ops : Array Oper) (Q : Exit → Act → World → Prop) (l0 : List Oper) (a0 : Act) (F : Nat → Value → World → Prop) (R : (Nat → Bool) → (Nat → Value) → World → Prop) (T : World → World → Prop) : Nat → List Oper → Prop
  | _, [] => True
  | k, o :: r => (∀ D xs w, D k = false → closed l0 D → (∀ e ∈ o.after, Region.binds .any e = true → D e.on = true) → R D xs w → ahead F xs w (o.after.toList.filter fun e => Region.binds .any e) → one P ops Q o (fun a' w' => ∃ v, a' = (fill l0 xs 0 a0).put o.dst v ∧ T w w' ∧ R (wth D k) (set xs k v) w' ∧ F k v w') (fill l0 xs 0 a0) w) ∧ each P ops Q l0 a0 F R T (k + 1) r
theorem each_spec {ops : Array Oper} {Q : Exit → Act → World → Prop} {l0 : List Oper} {a0 : Act} {F : Nat → Value → World → Prop} {R : (Nat → Bool) → (Nat → Value) → World → Prop} {T : World → World → Prop} :
    ∀ (l : List Oper) (k i : Nat) (o : Oper), each P ops Q l0 a0 F R T k l → l[i]? = some o → ∀ D xs w, D (k + i) = false → closed l0 D → (∀ e ∈ o.after, Region.binds .any e = true → D e.on = true) → R D xs w → ahead F xs w (o.after.toList.filter fun e => Region.binds .any e) →
      one P ops Q o (fun a' w' => ∃ v, a' = (fill l0 xs 0 a0).put o.dst v ∧ T w w' ∧ R (wth D (k + i)) (set xs (k + i) v) w' ∧ F (k + i) v w') (fill l0 xs 0 a0) w
  | [], _, _, _, _, h => by simp at h
  | o' :: r, k, i, o, he, h => by
    cases i with
    | zero =>
      obtain rfl : o' = o := by simpa using h
      exact he.1
    | succ i =>
      have := each_spec r (k + 1) i o he.2 (by simpa using h)
      rwa [show k + 1 + i = k + (i + 1) by omega] at this
theorem any_of_each {l : List Oper} {Q : Exit → Act → World → Prop} {a0 : Act} {F : Nat → Value → World → Prop} {R : (Nat → Bool) → (Nat → Value) → World → Prop} {T : World → World → Prop} (hb : back l 0 = true) (hap : apart l = true)
    (hT : ∀ k v w w', T w w' → F k v w → F k v w') (he : each P l.toArray Q l a0 F R T 0 l)
    (hend : ∀ D xs w, R D xs w → (∀ k, k < l.length → D k = true ∧ F k (xs k) w) → Q .normal (fill l xs 0 a0) w) :
    ∀ (fuel : Nat) (listed : Array Bool) (xs : Nat → Value) (w : World), listed.size = l.length → listed.toList.count false = fuel → closed l (fun k => listed.getD k false) → R (fun k => listed.getD k false) xs w → (∀ k, listed.getD k false = true → F k (xs k) w) →
      wpAny P .any l.toArray Q fuel listed (fill l xs 0 a0) w
  | 0, listed, xs, w, hsz, hc, hC, hR, hF => by
    have hall : ∀ k, k < l.length → listed.getD k false = true := by
      intro k hk
      cases h : listed.getD k false with
      | true => rfl
      | false =>
        have hlt : k < listed.size := by omega
        have : listed[k] = false := by simpa [hlt] using h
        have hm : false ∈ listed.toList := by rw [← this]; simp
        exact absurd hc (by have := List.count_pos_iff.2 hm; omega)
    refine ⟨?_, hend _ xs w hR fun k hk => ⟨hall k hk, hF k (hall k hk)⟩⟩
    refine List.eq_nil_iff_forall_not_mem.2 fun i hi => ?_
    obtain ⟨hun, o, ho, -⟩ := mem_ready.1 hi
    have hil : i < l.length := by simpa using (Array.getElem?_eq_some_iff.1 ho).1
    have := hall i hil
    have h2 : listed.getD i true = true := by
      have hlt : i < listed.size := by omega
      simpa [hlt] using this
    rw [h2] at hun; cases hun
  | fuel + 1, listed, xs, w, hsz, hc, hC, hR, hF => by
    refine ⟨fun h0 => ?_, fun i hi => ?_⟩
    ·
      exfalso
      have hm : false ∈ listed.toList := List.count_pos_iff.1 (by omega)
      obtain ⟨j, hj, hjf⟩ := List.getElem_of_mem hm
      have hex : ∃ n, n < l.length ∧ listed.getD n true = false ∧ ∀ m, m < n → listed.getD m false = true := by
        have hP : ∀ n, (n < l.length ∧ listed.getD n true = false) → ∃ n, n < l.length ∧ listed.getD n true = false ∧ ∀ m, m < n → listed.getD m false = true := by
          intro n
          induction n using Nat.strongRecOn with
          | _ n ih =>
            intro ⟨hn1, hn2⟩
            by_cases hall : ∀ m, m < n → listed.getD m false = true
            · exact ⟨n, hn1, hn2, hall⟩
            · simp only [Classical.not_forall] at hall
              obtain ⟨m, hm1, hm2⟩ := hall
              have hlt : m < listed.size := by omega
              refine ih m hm1 ⟨by omega, ?_⟩
              simpa [hlt] using hm2
        refine hP j ⟨by simpa [hsz] using hj, ?_⟩
        have hlt : j < listed.size := by simpa using hj
        simpa [hlt] using hjf
      obtain ⟨n, hn1, hn2, hn3⟩ := hex
      have ho : l.toArray[n]? = some l[n] := by simp [hn1]
      have hr : n ∈ Region.ready .any l.toArray listed := mem_ready.2 ⟨hn2, _, ho, fun e hem hbd => hn3 _ (by have := back_spec l 0 n _ hb (by simp [hn1]) e hem hbd; omega)⟩
      rw [h0] at hr; cases hr
    · obtain ⟨hun, o, ho, hall⟩ := mem_ready.1 hi
      have hol : l[i]? = some o := by simpa using ho
      have hil : i < l.length := by
        rcases Nat.lt_or_ge i l.length with h | h
        · exact h
        · rw [List.getElem?_eq_none h] at hol; cases hol
      have hif : listed.getD i false = false := by
        have hlt : i < listed.size := by omega
        simpa [hlt] using hun
      have hone := each_spec l 0 i o he hol (fun k => listed.getD k false) xs w (by rw [Nat.zero_add]; exact hif) hC hall hR (ahead_of _ fun e hem => by obtain ⟨h1, h2⟩ := List.mem_filter.1 hem; exact hF _ (hall e (by simpa using h1) h2))
      have hop : wpOp P l.toArray Q i (fun a' w' => ∃ v, a' = (fill l xs 0 a0).put o.dst v ∧ T w w' ∧ R (wth (fun k => listed.getD k false) (0 + i)) (set xs (0 + i) v) w' ∧ F (0 + i) v w') (fill l xs 0 a0) w := by
        unfold wpOp
        simp only [ho]
        exact hone
      refine wpOp_mono (fun a' w' h => ?_) hop
      obtain ⟨v, rfl, hTw, hR', hFv⟩ := h
      rw [fill_set l xs 0 i a0 o v hap hol]
      refine any_of_each hb hap hT he hend fuel (listed.setIfInBounds i true) (set xs (0 + i) v) w' (by simpa using hsz) ?_ ?_ ?_ fun k hk => ?_
      · have hlt : i < listed.size := by omega
        have hif : listed[i] = false := by simpa [hlt] using hun
        have hcs : (listed.toList.set i true).count false + 1 = listed.toList.count false := by
          have hm : false ∈ listed.toList := by rw [← hif]; simp
          have := List.count_pos_iff.2 hm
          rw [List.count_set (by simpa using hlt), if_pos (by simp [hif]), if_neg (by decide)]
          omega
        have hg : (listed.setIfInBounds i true).toList.count false + 1 = listed.toList.count false := by
          rw [Array.toList_setIfInBounds]; exact hcs
        rw [hc] at hg
        exact Nat.succ.inj hg
      · intro j o' ho' hj e he hbnd
        by_cases hij : i = j
        · subst hij
          obtain rfl : o = o' := Option.some.inj (hol.symm.trans ho')
          exact getD_set_true (hall e he hbnd)
        · have hj' : listed.getD j false = true := by rw [← getD_set_ne (i := i) (j := j) false hij]; exact hj
          exact getD_set_true (hC j o' ho' hj' e he hbnd)
      · have hD : (fun k => (listed.setIfInBounds i true).getD k false) = wth (fun k => listed.getD k false) (0 + i) := by
          funext k
          unfold wth
          have hlt : i < listed.size := by omega
          by_cases hki : k = 0 + i
          · rw [if_pos hki, hki, Nat.zero_add]; simp [hlt]
          · rw [if_neg hki, getD_set_ne (i := i) (j := k) false (by omega)]
        rw [hD]; exact hR'
      · unfold set
        by_cases hki : k = 0 + i
        · rw [if_pos hki, hki]; exact hFv
        · rw [if_neg hki]
          exact hT k _ w w' hTw (hF k (by rw [getD_set_ne (i := i) (j := k) false (by omega)] at hk; exact hk))
theorem regionF {id : Nat} {l : List Oper} {Q : Exit → Act → World → Prop} {a : Act} {w : World} (F : Nat → Value → World → Prop) (R : (Nat → Bool) → (Nat → Value) → World → Prop) (T : World → World → Prop)
    (hm : P.follows .mixedOrders = true) (hb : (back l 0 && apart l) = true) (hT : ∀ k v w w', T w w' → F k v w → F k v w') (hR : R (fun _ => false) (fun k => first a l[k]?) { w with drawn := w.drawn + 1 })
    (he : each P l.toArray Q l a F R T 0 l) (hend : ∀ D xs w, R D xs w → (∀ k, k < l.length → D k = true ∧ F k (xs k) w) → Q .normal (fill l xs 0 a) w) : (Code.region id l.toArray true).wp P Q a w := by
  rw [Bool.and_eq_true] at hb
  refine wp_region_any hm ?_
  have hf := fill_first l (fun k => first a l[k]?) 0 a (fun j => by rw [Nat.zero_add])
  have := any_of_each hb.1 hb.2 hT he hend l.toArray.size (Array.replicate l.toArray.size false) (fun k => first a l[k]?) { w with drawn := w.drawn + 1 } (by simp) (by simp) (fun j o _ hj => by simp [Array.getElem?_replicate] at hj; split at hj <;> simp at hj) (by
    have hD : (fun k => (Array.replicate l.toArray.size false).getD k false) = fun _ => false := by
      funext k
      simp only [Array.getD_eq_getD_getElem?, Array.getElem?_replicate]
      split <;> rfl
    rw [hD]; exact hR) (fun k hk => by simp [Array.getElem?_replicate] at hk; split at hk <;> simp at hk)
  rwa [hf] at this
theorem region {id : Nat} {l : List Oper} {Q : Exit → Act → World → Prop} {a : Act} {w : World} (F : Nat → Value → World → Prop) (R : (Nat → Bool) → (Nat → Value) → World → Prop) (T : World → World → Prop)
    (hm : P.follows .mixedOrders = true) (hb : (back l 0 && apart l) = true) (hT : ∀ k v w w', T w w' → F k v w → F k v w') (hR : ∀ xs, R (fun _ => false) xs { w with drawn := w.drawn + 1 })
    (he : each P l.toArray Q l a F R T 0 l) (hend : ∀ D xs w, R D xs w → (∀ k, k < l.length → D k = true ∧ F k (xs k) w) → Q .normal (fill l xs 0 a) w) : (Code.region id l.toArray true).wp P Q a w :=
  regionF F R T hm hb hT (hR _) he hend
def eachL (P : Program) (ops : Array Oper) (Q : Exit → Act → World → Prop) (l0 : List Oper) (fr : (Nat → Value) → Act) (F : Nat → Value → World → Prop) (R : (Nat → Bool) → (Nat → Value) → World → Prop) (T : World → World → Prop) : Nat → List Oper → Prop
  | _, [] => True
  | k, o :: r => (∀ D xs w, D k = false → closed l0 D → (∀ e ∈ o.after, Region.binds .any e = true → D e.on = true) → R D xs w → ahead F xs w (o.after.toList.filter fun e => Region.binds .any e) → ∀ K : Act → World → Prop, (∀ a' w', (∃ v, a' = (fr xs).put o.dst v ∧ T w w' ∧ R (wth D k) (set xs k v) w' ∧ F k v w') → K a' w') →
      if Region.wanted o (yielded ops (fr xs).tmps) then o.wp P (fr xs) w K Q else K ((fr xs).put o.dst undef) w) ∧ eachL P ops Q l0 fr F R T (k + 1) r
theorem each_of {ops : Array Oper} {Q : Exit → Act → World → Prop} {l0 : List Oper} {a0 : Act} {fr : (Nat → Value) → Act} {F : Nat → Value → World → Prop} {R : (Nat → Bool) → (Nat → Value) → World → Prop} {T : World → World → Prop} (hfr : ∀ xs, fill l0 xs 0 a0 = fr xs) :
    ∀ (k : Nat) (l : List Oper), eachL P ops Q l0 fr F R T k l → each P ops Q l0 a0 F R T k l
  | _, [], _ => trivial
  | k, o :: r, h => ⟨fun D xs w hD hC hP hR hA => by
      rw [hfr xs]
      have h1 := h.1 D xs w hD hC hP hR hA _ fun _ _ h => h
      unfold one
      split
      · next hw => rw [if_pos hw] at h1; exact Or.inl h1
      · next hw => rw [if_neg hw] at h1; exact h1, each_of hfr (k + 1) r h.2⟩
theorem each_nil {ops : Array Oper} {Q : Exit → Act → World → Prop} {l0 : List Oper} {fr : (Nat → Value) → Act} {F : Nat → Value → World → Prop} {R : (Nat → Bool) → (Nat → Value) → World → Prop} {T : World → World → Prop} {k : Nat} : eachL P ops Q l0 fr F R T k [] := trivial
theorem each_cons {ops : Array Oper} {Q : Exit → Act → World → Prop} {l0 : List Oper} {fr : (Nat → Value) → Act} {F : Nat → Value → World → Prop} {R : (Nat → Bool) → (Nat → Value) → World → Prop} {T : World → World → Prop} {k : Nat} {o : Oper} {r : List Oper}
    (h : ∀ D xs w, D k = false → closed l0 D → (∀ e ∈ o.after, Region.binds .any e = true → D e.on = true) → R D xs w → ahead F xs w (o.after.toList.filter fun e => Region.binds .any e) → ∀ K : Act → World → Prop, (∀ a' w', (∃ v, a' = (fr xs).put o.dst v ∧ T w w' ∧ R (wth D k) (set xs k v) w' ∧ F k v w') → K a' w') →
      if Region.wanted o (yielded ops (fr xs).tmps) then o.wp P (fr xs) w K Q else K ((fr xs).put o.dst undef) w)
    (hr : eachL P ops Q l0 fr F R T (k + 1) r) : eachL P ops Q l0 fr F R T k (o :: r) := ⟨h, hr⟩
theorem walk {id : Nat} {l : List Oper} {Q : Exit → Act → World → Prop} {a : Act} {w : World} (F : Nat → Value → World → Prop) (R : (Nat → Bool) → (Nat → Value) → World → Prop) (T : World → World → Prop)
    (hm : P.follows .mixedOrders = true) (hb : (back l 0 && apart l) = true) (fr : (Nat → Value) → Act) (hfr : ∀ xs, fill l xs 0 a = fr xs) (hT : ∀ k v w w', T w w' → F k v w → F k v w') (hR : ∀ xs, R (fun _ => false) xs w.drew)
    (he : eachL P l.toArray Q l fr F R T 0 l) (hend : ∀ D xs w, R D xs w → (∀ k, k < l.length → D k = true ∧ F k (xs k) w) → Q .normal (fr xs) w) : (Code.region id l.toArray true).wp P Q a w :=
  region F R T hm hb hT hR (each_of hfr 0 l he) fun D xs w h1 h2 => by rw [hfr xs]; exact hend D xs w h1 h2
theorem walkF {id : Nat} {l : List Oper} {Q : Exit → Act → World → Prop} {a : Act} {w : World} (F : Nat → Value → World → Prop) (R : (Nat → Bool) → (Nat → Value) → World → Prop) (T : World → World → Prop)
    (hm : P.follows .mixedOrders = true) (hb : (back l 0 && apart l) = true) (fr : (Nat → Value) → Act) (hfr : ∀ xs, fill l xs 0 a = fr xs) (hT : ∀ k v w w', T w w' → F k v w → F k v w') (hR : ∀ xs, (∀ k, xs k = first a l[k]?) → R (fun _ => false) xs w.drew)
    (he : eachL P l.toArray Q l fr F R T 0 l) (hend : ∀ D xs w, R D xs w → (∀ k, k < l.length → D k = true ∧ F k (xs k) w) → Q .normal (fr xs) w) : (Code.region id l.toArray true).wp P Q a w :=
  regionF F R T hm hb hT (hR _ fun _ => rfl) (each_of hfr 0 l he) fun D xs w h1 h2 => by rw [hfr xs]; exact hend D xs w h1 h2
theorem ahead_get {F : Nat → Value → World → Prop} {xs : Nat → Value} {w : World} : ∀ (es : List Edge), ahead F xs w es → ∀ j, (es.any fun e => e.on == j) = true → F j (xs j) w
  | [], _, _, h => by simp at h
  | e :: es, ha, j, h => by
    simp only [List.any_cons, Bool.or_eq_true, beq_iff_eq] at h
    rcases h with h | h
    · subst h; exact ha.1
    · exact ahead_get es ha.2 j h
end Go.Proofs.YtbpodmallknhfaaGreat.Ord
namespace Go.Proofs.YtbpodmallknhfaaGreat
open Go.RowKit
structure Touch (S : Nat → Prop) (a b : World) : Prop where
  os : b.os = a.os
  tape : b.tape = a.tape
  output : b.output = a.output
  size : a.heap.size ≤ b.heap.size
  block : ∀ i, i < a.heap.size → ¬ S i → b.heap[i]? = a.heap[i]?
theorem Touch.refl (S : Nat → Prop) (a : World) : Touch S a a := ⟨rfl, rfl, rfl, Nat.le_refl _, fun _ _ _ => rfl⟩
theorem Touch.trans {S : Nat → Prop} {a b c : World} (h : Touch S a b) (k : Touch S b c) : Touch S a c :=
  ⟨k.os.trans h.os, k.tape.trans h.tape, k.output.trans h.output, Nat.le_trans h.size k.size, fun i hi hs => (k.block i (Nat.lt_of_lt_of_le hi h.size) hs).trans (h.block i hi hs)⟩
theorem Touch.mono {S T : Nat → Prop} {a b : World} (h : Touch S a b) (hs : ∀ i, i < a.heap.size → S i → T i) : Touch T a b :=
  ⟨h.os, h.tape, h.output, h.size, fun i hi ht => h.block i hi fun hh => ht (hs i hi hh)⟩
theorem Touch.of_below {S : Nat → Prop} {base : Nat} {a b : World} (h : Below base a b) (hs : ∀ i, i < a.heap.size → base ≤ i → S i) : Touch S a b :=
  ⟨h.os, h.tape, h.output, h.size, fun i hi hn => h.block i (by
    rcases Nat.lt_or_ge i base with hh | hh
    · exact hh
    · exact absurd (hs i hi hh) hn)⟩
theorem Touch.of_new {S : Nat → Prop} {a b : World} (h : Below a.heap.size a b) : Touch S a b := .of_below h fun i hi hb => absurd hb (by omega)
theorem Touch.of_grown {S : Nat → Prop} {g : Nat} {a b : World} (h : a.grownBy b (some g)) (hs : S g) : Touch S a b :=
  ⟨h.os, h.tape, h.output, h.size, fun i hi hn => h.block i hi fun e => hn (by rw [Option.some.inj e]; exact hs)⟩
theorem Touch.set {S : Nat → Prop} {a : World} (g o : Nat) (u : Value) (hs : S g) : Touch S a (a.setCell ⟨g, o, none⟩ u) := .of_grown (grownBy_setCell a g o u) hs
theorem Touch.drew {S : Nat → Prop} {a b : World} (h : Touch S a b) : Touch S a b.drew := ⟨h.os, h.tape, h.output, h.size, h.block⟩
theorem Touch.drewN {S : Nat → Prop} {a b : World} (h : Touch S a b) (n : Nat) : Touch S a (b.drewN n) := ⟨h.os, h.tape, h.output, h.size, h.block⟩
theorem Touch.below {S : Nat → Prop} {base : Nat} {a b : World} (h : Touch S a b) (hs : ∀ i, S i → base ≤ i) (hb : base ≤ a.heap.size) : Below base a b :=
  ⟨h.os, h.tape, h.output, h.size, fun i hi => h.block i (by omega) fun hh => by have := hs i hh; omega⟩
theorem Touch.row {S : Nat → Prop} {a b : World} {g : Nat} {o : Obj} (h : Touch S a b) (hr : a.heap[g]? = some o) (hs : ¬ S g) : b.heap[g]? = some o := by
  rw [h.block g (lt_of_block hr) hs]; exact hr
theorem Touch.cell {S : Nat → Prop} {a b : World} {p : Addr} {v : Value} (h : Touch S a b) (hc : a.cell? p = some v) (hs : ¬ S p.block) : b.cell? p = some v := by
  rw [World.cell?_of_block (w := a) (a := p) (h.block p.block (block_lt_of_cell hc) hs)]
  exact hc
theorem Touch.bts {S : Nat → Prop} {a b : World} {v : Value} {l : List Nat} (h : Touch S a b) (hB : Bts a v l) (hs : 0 < l.length → ∀ g, v.ownBlock = some g → ¬ S g) : Bts b v l := by
  obtain ⟨p, cap, hv, hr, hn, hp⟩ := hB.form
  refine ⟨⟨p, cap, hv, hr, hn, fun h0 => ?_⟩, hB.small, hB.len⟩
  obtain ⟨g, off, hpe, hc⟩ := hp h0
  exact ⟨g, off, hpe, fun i hi => h.cell (hc i hi) (hs h0 g (by rw [hv, hpe]; rfl))⟩
end Go.Proofs.YtbpodmallknhfaaGreat
namespace Go.Proofs.YtbpodmallknhfaaGreat
open Go.RowKit
end Go.Proofs.YtbpodmallknhfaaGreat
namespace Go.Proofs.YtbpodmallknhfaaGreat.Ints
open Go.RowKit
def Okk (x : Int) : Prop := (Lit.int .i64 x).wf = true
structure Bts (w : World) (v : Value) (l : List Int) : Prop where
  form : ∃ p cap, v = .slice p l.length cap ∧ (l.length ≤ cap ∧ cap ≤ 9223372036854775807) ∧ (p = none → cap = 0) ∧ (0 < l.length → ∃ b off, p = some ⟨b, off, none⟩ ∧ ∀ i, i < l.length → w.cell? ⟨b, off + i, none⟩ = some (.int .i64 (l.getD i 0)))
  small : ∀ x ∈ l, Okk x
  len : l.length ≤ 17592186044416
theorem okk_nought : Okk 0 := by unfold Okk; rfl
theorem Bts.getD {w : World} {v : Value} {l : List Int} (h : Bts w v l) (i : Nat) : Okk (l.getD i 0) := by
  rcases Nat.lt_or_ge i l.length with hi | hi
  · refine h.small (l.getD i 0) ?_
    rw [List.getD_eq_getElem?_getD, List.getElem?_eq_getElem hi]; simp
  · rw [List.getD_eq_getElem?_getD, List.getElem?_eq_none hi]; exact okk_nought
theorem Bts.below {w w' : World} {v : Value} {l : List Int} (h : Bts w v l) (hb : Below w.heap.size w w') : Bts w' v l := by
  obtain ⟨p, cap, hv, hr, hn, hp⟩ := h.form
  refine ⟨⟨p, cap, hv, hr, hn, fun h0 => ?_⟩, h.small, h.len⟩
  obtain ⟨b, off, hpe, hc⟩ := hp h0
  refine ⟨b, off, hpe, fun i hi => ?_⟩
  have hci := hc i hi
  rw [hb.cell (p := ⟨b, off + i, none⟩) (block_lt_of_cell hci)]
  exact hci
theorem Bts.take {w : World} {p : Option Addr} {cap : Nat} {l : List Int} (h : Bts w (.slice p l.length cap) l) (n : Nat) (hn : n ≤ l.length) : Bts w (.slice p n cap) (l.take n) := by
  obtain ⟨p', cap', hv, hr, hz, hp⟩ := h.form
  simp only [Value.slice.injEq] at hv
  obtain ⟨rfl, -, rfl⟩ := hv
  have hl : (l.take n).length = n := by simp; omega
  refine ⟨⟨p, cap, by rw [hl], ⟨by omega, hr.2⟩, hz, fun h0 => ?_⟩, fun x hx => h.small x (List.mem_of_mem_take hx), by have := h.len; omega⟩
  obtain ⟨b, off, hpe, hc⟩ := hp (by omega)
  refine ⟨b, off, hpe, fun i hi => ?_⟩
  rw [hc i (by omega)]
  have : (l.take n).getD i 0 = l.getD i 0 := by
    simp only [List.getD_eq_getElem?_getD]
    rw [List.getElem?_take, if_pos (by omega)]
  rw [this]
theorem Bts.mem_take {w : World} {v : Value} {l : List Int} (h : Bts w v l) (k : Nat) : ∀ x ∈ l.take k, Okk x := fun x hx => h.small x (List.mem_of_mem_take hx)
theorem take_succ_getD (l : List Int) (k : Nat) (h : k < l.length) : l.take (k + 1) = l.take k ++ [l.getD k 0] := by
  rw [List.take_succ_eq_append_getElem h, List.getD_eq_getElem?_getD, List.getElem?_eq_getElem h]; rfl
theorem info5 : (Tryz.prog.info? 3).map (fun i => (i.zero, i.size, i.bytes)) = some (some (.int .i64 0), 1, 8) := by kernel_rfl
def bytesV (l : List Int) : List Value := l.map fun x : Int => Value.int .i64 x
theorem bytesV_length (l : List Int) : (bytesV l).length = l.length := by simp [bytesV]
theorem owns_cells {w : World} {base g cap n : Nat} {l : List Int} (h : w.ownsRow base 3 1 (.slice (some ⟨g, 0, none⟩) n cap) n (bytesV l)) :
    base ≤ g ∧ n ≤ cap ∧ cap ≤ maxLen ∧ l.length = n ∧ ∀ i, i < l.length → w.cell? ⟨g, i, none⟩ = some (.int .i64 (l.getD i 0)) := by
  obtain ⟨h1, h2⟩ := h
  rcases h2 with ⟨h2, _⟩ | ⟨g', cap', cur, hv, hg, hh, h3, h4, h5, h6⟩
  · simp at h2
  · simp only [Value.slice.injEq, Option.some.injEq, Addr.mk.injEq] at hv
    obtain ⟨⟨rfl, -, -⟩, -, rfl⟩ := hv
    have hln : l.length = n := by simpa [bytesV] using h1
    refine ⟨hg, h3, h4, hln, fun i hi => ?_⟩
    rw [cell_of_row _ g i cur 3 (0, 0) hh]
    have hi2 : (cur.toList.take (n * 1))[i]? = (bytesV l)[i]? := by rw [h6]
    rw [List.getElem?_take, if_pos (by omega)] at hi2
    rw [← Array.getElem?_toList, hi2]
    simp [bytesV, List.getElem?_eq_getElem hi]
theorem bts_owned {w : World} {base : Nat} {v : Value} {l : List Int} (h : w.ownsRow base 3 1 v l.length (bytesV l)) (hs : ∀ x ∈ l, Okk x) (hl : l.length ≤ 17592186044416) : Bts w v l := by
  rcases h.2 with ⟨hv, h0⟩ | ⟨g, cap, cur, hv, _⟩
  · subst hv
    exact ⟨⟨none, 0, by rw [h0], by omega, fun _ => rfl, fun h => absurd h (by omega)⟩, hs, hl⟩
  · subst hv
    obtain ⟨_, h2, h3, _, h5⟩ := owns_cells h
    refine ⟨⟨some ⟨g, 0, none⟩, cap, rfl, ⟨h2, by unfold maxLen at h3; exact h3⟩, fun h => by simp at h, fun _ => ⟨g, 0, rfl, fun i hi => ?_⟩⟩, hs, hl⟩
    rw [Nat.zero_add]
    exact h5 i hi
theorem bts_alloc (w : World) (l : List Int) (cap : Nat) (hcap : l.length ≤ cap ∧ cap ≤ 9223372036854775807) (t : TypeId) (fr : Nat × Nat) (hs : ∀ x ∈ l, Okk x) (hl : l.length ≤ 17592186044416) :
    Bts (w.alloc (.cells (l.map fun x : Int => Value.int .i64 x).toArray t fr)) (.slice (some ⟨w.heap.size, 0, none⟩) l.length cap) l := by
  refine ⟨⟨_, cap, rfl, hcap, (fun h => by simp at h), fun _ => ⟨w.heap.size, 0, rfl, fun i hi => ?_⟩⟩, hs, hl⟩
  rw [cell_of_row _ w.heap.size (0 + i) _ t fr (heap_alloc_last _ _)]
  simp [List.getElem?_eq_getElem hi]
theorem grownBy_refl (w : World) (row : Option Nat) : w.grownBy w row := ⟨rfl, rfl, rfl, Nat.le_refl _, fun _ _ _ => rfl⟩
theorem grownBy_trans {a b c : World} {row : Option Nat} (h : a.grownBy b row) (k : b.grownBy c row) : a.grownBy c row :=
  ⟨k.os.trans h.os, k.tape.trans h.tape, k.output.trans h.output, Nat.le_trans h.size k.size, fun i hi hr => (k.block i (Nat.lt_of_lt_of_le hi h.size) hr).trans (h.block i hi hr)⟩
theorem grownBy_below {a b : World} (h : Below a.heap.size a b) (row : Option Nat) : a.grownBy b row := ⟨h.os, h.tape, h.output, h.size, fun k hk _ => h.block k hk⟩
theorem grownBy_setCell (w : World) (B o : Nat) (u : Value) : w.grownBy (w.setCell ⟨B, o, none⟩ u) (some B) :=
  ⟨rfl, rfl, rfl, by simp [World.setCell], fun k _ hr => Below.heap_setCell _ _ _ _ (fun e => hr (by rw [e]))⟩
theorem grownBy_drew (w : World) (row : Option Nat) : w.grownBy w.drew row := ⟨rfl, rfl, rfl, Nat.le_refl _, fun _ _ _ => rfl⟩
theorem below_grown {B0 B : Nat} {a b c : World} (h : Below B0 a b) (k : b.grownBy c (some B)) (h0 : B0 ≤ b.heap.size) (hB : B0 ≤ B) : Below B0 a c :=
  h.grown k h0 (fun i hi => by cases hi; exact hB)
theorem Bts.grown {w w' : World} {v : Value} {l : List Int} {row : Option Nat} (h : Bts w v l) (hg : w.grownBy w' row) (hne : 0 < l.length → v.ownBlock ≠ row) : Bts w' v l := by
  obtain ⟨p, cap, hv, hr, hn, hp⟩ := h.form
  refine ⟨⟨p, cap, hv, hr, hn, fun h0 => ?_⟩, h.small, h.len⟩
  obtain ⟨b, off, hpe, hc⟩ := hp h0
  refine ⟨b, off, hpe, fun i hi => ?_⟩
  refine hg.cell (hc i hi) ?_
  have := hne h0
  rw [hv, hpe] at this
  exact this
theorem Bts.drop {w : World} {b off cap : Nat} {l : List Int} (h : Bts w (.slice (some ⟨b, off, none⟩) l.length cap) l) (n : Nat) (hn : n ≤ l.length) : Bts w (.slice (some ⟨b, off + n, none⟩) (l.length - n) (cap - n)) (l.drop n) := by
  obtain ⟨p', cap', hv, hr, hz, hp⟩ := h.form
  simp only [Value.slice.injEq] at hv
  obtain ⟨rfl, -, rfl⟩ := hv
  have hl : (l.drop n).length = l.length - n := by simp
  refine ⟨⟨_, _, by rw [hl], ⟨by omega, by omega⟩, (fun h => by simp at h), fun h0 => ?_⟩, fun x hx => h.small x (List.mem_of_mem_drop hx), by have := h.len; omega⟩
  obtain ⟨b', off', hpe, hc⟩ := hp (by omega)
  simp only [Option.some.injEq, Addr.mk.injEq] at hpe
  obtain ⟨rfl, rfl, -⟩ := hpe
  refine ⟨b, off + n, rfl, fun i hi => ?_⟩
  rw [show off + n + i = off + (n + i) by omega, hc (n + i) (by omega)]
  simp [List.getD_eq_getElem?_getD]
def Row (w : World) (g n : Nat) : Prop := ∃ cur : Array Value, w.heap[g]? = some (.cells cur 3 (0, 0)) ∧ n ≤ cur.size ∧ ∀ i, i < n → ∃ b : Int, Okk b ∧ cur[i]? = some (.int .i64 b)
theorem Row.lt {w : World} {g n : Nat} (h : Row w g n) : g < w.heap.size := by
  obtain ⟨cur, hh, _⟩ := h; exact lt_of_block hh
theorem row_owned {w : World} {base g cap n : Nat} {l : List Int} (h : w.ownsRow base 3 1 (.slice (some ⟨g, 0, none⟩) n cap) n (bytesV l)) (hs : ∀ x ∈ l, Okk x) : Row w g n := by
  obtain ⟨h1, h2⟩ := h
  rcases h2 with ⟨h2, _⟩ | ⟨g', cap', cur, hv, hg, hh, h3, h4, h5, h6⟩
  · simp at h2
  · simp only [Value.slice.injEq, Option.some.injEq, Addr.mk.injEq] at hv
    obtain ⟨⟨rfl, -, -⟩, -, rfl⟩ := hv
    have hln : l.length = n := by simpa [bytesV] using h1
    refine ⟨cur, hh, by omega, fun i hi => ?_⟩
    have hi2 : (cur.toList.take (n * 1))[i]? = (bytesV l)[i]? := by rw [h6]
    rw [List.getElem?_take, if_pos (by omega)] at hi2
    refine ⟨l[i]'(by omega), hs _ (List.getElem_mem _), ?_⟩
    rw [← Array.getElem?_toList, hi2]
    simp [bytesV, List.getElem?_eq_getElem (show i < l.length by omega)]
structure Own (base : Nat) (w : World) (v : Value) (l : List Int) : Prop where
  own : w.ownsRow base 3 1 v l.length (bytesV l)
  small : ∀ x ∈ l, Okk x
  len : l.length ≤ 17592186044416
theorem Own.bts {base : Nat} {w : World} {v : Value} {l : List Int} (h : Own base w v l) : Bts w v l := bts_owned h.own h.small h.len
theorem Own.form {base : Nat} {w : World} {v : Value} {l : List Int} (h : Own base w v l) : (v = .slice none 0 0 ∧ l = []) ∨ ∃ g cap, v = .slice (some ⟨g, 0, none⟩) l.length cap ∧ base ≤ g ∧ l.length ≤ cap ∧ cap ≤ maxLen ∧ Row w g l.length := by
  rcases h.own.2 with ⟨hv, h0⟩ | ⟨g, cap, cur, hv, hg, hh, h3, h4, h5, h6⟩
  · exact Or.inl ⟨hv, List.eq_nil_of_length_eq_zero h0⟩
  · subst hv
    exact Or.inr ⟨g, cap, rfl, hg, h3, h4, row_owned h.own h.small⟩
theorem Own.grown {base : Nat} {w w' : World} {v : Value} {l : List Int} {row : Option Nat} (h : Own base w v l) (hg : w.grownBy w' row) (hne : v.ownBlock = none ∨ v.ownBlock ≠ row) : Own base w' v l := ⟨h.own.kept hg hne, h.small, h.len⟩
theorem Own.below {base : Nat} {w w' : World} {v : Value} {l : List Int} (h : Own base w v l) (hb : Below w.heap.size w w') : Own base w' v l :=
  h.grown (row := none) (grownBy_below hb none) (by cases hv : v.ownBlock <;> simp)
theorem Own.from {base base' : Nat} {w : World} {v : Value} {l : List Int} (h : Own base w v l) (hb : base' ≤ base) : Own base' w v l := by
  refine ⟨⟨h.own.1, ?_⟩, h.small, h.len⟩
  rcases h.own.2 with h2 | ⟨g, cap, cur, hv, hg, r⟩
  · exact Or.inl h2
  · exact Or.inr ⟨g, cap, cur, hv, Nat.le_trans hb hg, r⟩
theorem own_nil (base : Nat) (w : World) : Own base w (.slice none 0 0) [] := ⟨⟨rfl, Or.inl ⟨rfl, rfl⟩⟩, by simp, by decide⟩
theorem wpList_append_Own {w : World} {ops : Array Oper} {rest : List Oper} {o : Oper} {a : Act} {Q : Exit → Act → World → Prop} (hgd : o.guard = none) (s x : Operand)
    (ho : o.op = .call { callee := .builtin .append, args := #[s, x], argTypes := #[34, 34] })
    (base : Nat) (v : Value) (l1 : List Int) (hs : a.eval s = v) (hown : Own base w v l1)
    (xv : Value) (l2 : List Int) (hx : a.eval x = xv) (hB : Bts w xv l2) (hlen : l1.length + l2.length ≤ 17592186044416) (hbase : base ≤ w.heap.size)
    (h : ∀ v' w', Own base w' v' (l1 ++ l2) → Below base w w' → w.grownBy w' v.ownBlock → wpList Tryz.prog ops Q rest (a.put o.dst v') w') : wpList Tryz.prog ops Q (o :: rest) a w := by
  obtain ⟨i0, hi, hz0, hz1, hz2⟩ := info_parts info5
  have hsm : ∀ x ∈ l1 ++ l2, Okk x := by
    intro y hy
    rcases List.mem_append.1 hy with hy | hy
    · exact hown.small y hy
    · exact hB.small y hy
  have hb : bytesV l1 ++ bytesV l2 = bytesV (l1 ++ l2) := by simp [bytesV]
  obtain ⟨p, cap, rfl, _, hn, hp⟩ := hB.form
  cases p with
  | none =>
    obtain rfl := hn rfl
    have hl0 : l2.length = 0 := by
      rcases Nat.eq_zero_or_pos l2.length with h0 | h0
      · exact h0
      · obtain ⟨b, off, he, _⟩ := hp h0; simp at he
    obtain rfl : l2 = [] := List.eq_nil_of_length_eq_zero hl0
    refine wpList_append_own_none hgd s x 34 ho base 3 i0 1 Tryz.underlying34 hi v l1.length (bytesV l1) hs hown.own hx ?_
    refine h v w ?_ (Below.refl _ _) (grownBy_refl _ _)
    simpa using hown
  | some ad =>
    refine wpList_append_own w hgd s x 34 ho base 3 i0 (.int .i64 0) 1 8 Tryz.underlying34 hi hz0 hz1 hz2 rfl (by decide) v l1.length (bytesV l1) hs hown.own ad l2.length cap (bytesV l2) hx (by simp [bytesV]) ?_ ?_ (by unfold maxLen; omega) (by omega) hbase ?_
    · intro j u hj
      have hjl : j < l2.length := by
        rcases Nat.lt_or_ge j l2.length with h1 | h1
        · exact h1
        · rw [List.getElem?_eq_none (by simpa [bytesV] using h1)] at hj; simp at hj
      obtain ⟨b, off, he, hc⟩ := hp (by omega)
      obtain rfl := Option.some.inj he
      have hadd : (⟨b, off, none⟩ : Addr).add j = ⟨b, off + j, none⟩ := by unfold Addr.add; split <;> simp_all
      rw [hadd, hc j hjl, ← hj]
      simp [bytesV, List.getElem?_eq_getElem hjl]
    · intro u hu
      simp only [bytesV, List.mem_map] at hu
      obtain ⟨y, _, rfl⟩ := hu
      rfl
    · intro v' w' hown' hgrow _
      rw [hb, ← List.length_append] at hown'
      refine h v' w' ⟨hown', hsm, by simp; omega⟩ ((Below.refl _ _).grown hgrow hbase ?_) hgrow
      intro k hk
      rcases hown.own.2 with ⟨rfl, _⟩ | ⟨g, c, cur, rfl, hg, _⟩
      · simp [Value.ownBlock] at hk
      · simp only [Value.ownBlock, Option.some.injEq] at hk
        omega
theorem own_empty (w : World) (base cap : Nat) (cs : Array Value) (hb : base ≤ w.heap.size) (hm : cap ≤ maxLen) (hs : cs.size = cap * 1) : Own base (w.alloc (.cells cs 3)) (.slice (some ⟨w.heap.size, 0, none⟩) 0 cap) [] :=
  ⟨World.ownsRow_made w cs cap hb hm hs, by simp, by decide⟩
theorem wpList_make_Own {w : World} {ops : Array Oper} {rest : List Oper} {o : Oper} {a : Act} {Q : Exit → Act → World → Prop} (hgd : o.guard = none) (x c : Operand)
    (hop : o.op = Op.makeSlice 34 x c) (base : Nat) (kl kc : IntKind) (C : Int) (n : Nat) (hl : a.eval x = .int kl 0) (hc : a.eval c = .int kc C) (hC : C = (n : Int)) (hn : n ≤ 17592186044416) (hbase : base ≤ w.heap.size)
    (h : ∀ v' w', Own base w' v' [] → Below base w w' → wpList Tryz.prog ops Q rest (a.put o.dst v') w') : wpList Tryz.prog ops Q (o :: rest) a w := by
  obtain ⟨i0, hi, hz0, hz1, hz2⟩ := info_parts info5
  refine wpList_make_own w hgd x c 34 hop base 3 i0 (.int .i64 0) 1 Tryz.underlying34 hi hz0 hz1 kl kc C n hl hc hC (by rw [hz2]; omega) (by unfold maxLen; omega) hbase ?_
  intro w' hown hg
  exact h _ w' ⟨hown, by simp, by decide⟩ ((Below.refl _ _).grown hg hbase (fun k hk => by cases hk))
theorem wpList_append_byte {w : World} {ops : Array Oper} {rest : List Oper} {o : Oper} {a : Act} {Q : Exit → Act → World → Prop} (hgd : o.guard = none) (s x : Operand)
    (ho : o.op = .call { callee := .builtin .append, args := #[s, x], argTypes := #[34, 34] })
    (base : Nat) (v : Value) (l : List Int) (hs : a.eval s = v) (hown : Own base w v l)
    (hx : a.eval x = .slice (some ⟨w.heap.size, 0, none⟩) 1 1) (b : Int) (hb : Okk b) (hlen : l.length + 1 ≤ 17592186044416) (hbase : base ≤ w.heap.size)
    (h : ∀ v' w', Own base w' v' (l ++ [b]) → Below base w w' → wpList Tryz.prog ops Q rest (a.put o.dst v') w') : wpList Tryz.prog ops Q (o :: rest) a (w.alloc (.cells #[.int .i64 b] 3)) := by
  have hal : Below base w (w.alloc (.cells #[.int .i64 b] 3)) := (Below.refl _ _).alloc hbase _
  refine wpList_append_Own hgd s x ho base v l hs (hown.below ((Below.refl _ _).alloc (Nat.le_refl _) _)) _ [b] hx (bts_alloc w [b] 1 (by simp) 3 (0, 0) (by simpa using hb) (by simp)) (by simpa using hlen) (Nat.le_trans hbase hal.size) ?_
  · intro v' w' ho' hb' _
    exact h v' w' ho' (hal.trans hb')
end Go.Proofs.YtbpodmallknhfaaGreat.Ints
namespace Go.Proofs.YtbpodmallknhfaaGreat.Ints
open Go.ChangeShapes Go.WideShapes Go.ChangeAt Go.RowKit
end Go.Proofs.YtbpodmallknhfaaGreat.Ints
namespace Go.Proofs.YtbpodmallknhfaaGreat
open Go.RowKit
theorem cell3_0 {w : World} {B : Nat} {a b c : Value} {T : TypeId} (h : w.heap[B]? = some (.cells #[a, b, c] T (0, 0))) : w.cell? ⟨B, 0, none⟩ = some a := by simp [World.cell?, h]
theorem cell3_1 {w : World} {B : Nat} {a b c : Value} {T : TypeId} (h : w.heap[B]? = some (.cells #[a, b, c] T (0, 0))) : w.cell? ⟨B, 1, none⟩ = some b := by simp [World.cell?, h]
theorem cell3_2 {w : World} {B : Nat} {a b c : Value} {T : TypeId} (h : w.heap[B]? = some (.cells #[a, b, c] T (0, 0))) : w.cell? ⟨B, 2, none⟩ = some c := by simp [World.cell?, h]
theorem free3 {w : World} {B : Nat} {a b c : Value} {T : TypeId} (h : w.heap[B]? = some (.cells #[a, b, c] T (0, 0))) (o : Nat) : w.frozen? ⟨B, o, none⟩ = false := by simp [World.frozen?, h]
theorem set3_0 {w : World} {B : Nat} {a b c u : Value} {T : TypeId} (h : w.heap[B]? = some (.cells #[a, b, c] T (0, 0))) : (w.setCell ⟨B, 0, none⟩ u).heap[B]? = some (.cells #[u, b, c] T (0, 0)) := by
  have hlt := lt_of_block h
  have h' : w.heap[B] = .cells #[a, b, c] T (0, 0) := by simpa [Array.getElem?_eq_getElem hlt] using h
  show (w.heap.modify B _)[B]? = _
  rw [Array.getElem?_eq_getElem (by simpa using hlt), Array.getElem_modify_self, h']
  rfl
theorem set3_1 {w : World} {B : Nat} {a b c u : Value} {T : TypeId} (h : w.heap[B]? = some (.cells #[a, b, c] T (0, 0))) : (w.setCell ⟨B, 1, none⟩ u).heap[B]? = some (.cells #[a, u, c] T (0, 0)) := by
  have hlt := lt_of_block h
  have h' : w.heap[B] = .cells #[a, b, c] T (0, 0) := by simpa [Array.getElem?_eq_getElem hlt] using h
  show (w.heap.modify B _)[B]? = _
  rw [Array.getElem?_eq_getElem (by simpa using hlt), Array.getElem_modify_self, h']
  rfl
theorem set3_2 {w : World} {B : Nat} {a b c u : Value} {T : TypeId} (h : w.heap[B]? = some (.cells #[a, b, c] T (0, 0))) : (w.setCell ⟨B, 2, none⟩ u).heap[B]? = some (.cells #[a, b, u] T (0, 0)) := by
  have hlt := lt_of_block h
  have h' : w.heap[B] = .cells #[a, b, c] T (0, 0) := by simpa [Array.getElem?_eq_getElem hlt] using h
  show (w.heap.modify B _)[B]? = _
  rw [Array.getElem?_eq_getElem (by simpa using hlt), Array.getElem_modify_self, h']
  rfl
theorem set3 {w : World} {B : Nat} {a b c x y z : Value} {T : TypeId} (h : w.heap[B]? = some (.cells #[a, b, c] T (0, 0))) :
    (((w.setCell ⟨B, 0, none⟩ x).setCell ⟨B, 1, none⟩ y).setCell ⟨B, 2, none⟩ z).heap[B]? = some (.cells #[x, y, z] T (0, 0)) ∧ w.grownBy (((w.setCell ⟨B, 0, none⟩ x).setCell ⟨B, 1, none⟩ y).setCell ⟨B, 2, none⟩ z) (some B) :=
  ⟨set3_2 (set3_1 (set3_0 h)), grownBy_trans (grownBy_setCell _ _ _ _) (grownBy_trans (grownBy_setCell _ _ _ _) (grownBy_setCell _ _ _ _))⟩
end Go.Proofs.YtbpodmallknhfaaGreat
namespace Go.Proofs.YtbpodmallknhfaaGreat
open Go.RowKit
theorem setRow_touch {w : World} (Q : Nat) (A : Array Value) : Touch (· = Q) w (w.setRow Q A) := ⟨rfl, rfl, rfl, by simp [World.setRow], fun i _ hn => setRow_other w Q i _ hn⟩
structure TR (W : World) (Q : Nat) (T : TypeId) (B0 A : Array Value) (op : Nat) (D : Nat → Bool) (w : World) : Prop where
  touch : Touch (· = Q) W w
  row : w.heap[Q]? = some (.cells (if D op = true then A else B0) T (0, 0))
section
variable {W w w' : World} {Q op : Nat} {T : TypeId} {A B0 : Array Value} {D : Nat → Bool}
theorem TR.first (h : W.heap[Q]? = some (.cells B0 T (0, 0))) : TR W Q T B0 A op (fun _ => false) W.drew := ⟨(Touch.refl _ _).drew, h⟩
theorem TR.skip (h : TR W Q T B0 A op D w) (k : Nat) (hk : op ≠ k) : TR W Q T B0 A op (Ord.wth D k) w :=
  ⟨h.touch, by rw [show Ord.wth D k op = D op from if_neg hk]; exact h.row⟩
theorem TR.put (h : TR W Q T B0 A op D w) (ht : Touch (· = Q) w w') (hr : w'.heap[Q]? = some (.cells A T (0, 0))) : TR W Q T B0 A op (Ord.wth D op) w' :=
  ⟨h.touch.trans ht, by rw [show Ord.wth D op op = true from if_pos rfl, if_pos rfl]; exact hr⟩
theorem TR.now (h : TR W Q T B0 A op D w) (hd : D op = false) : w.heap[Q]? = some (.cells B0 T (0, 0)) := by
  have := h.row
  rw [hd] at this
  exact this
theorem TR.done (h : TR W Q T B0 A op D w) (hd : D op = true) : w.heap[Q]? = some (.cells A T (0, 0)) := by
  have := h.row
  rw [hd] at this
  exact this
end
end Go.Proofs.YtbpodmallknhfaaGreat
