/- Slices of bytes over any world: what reads as bytes, what an append of them leaves, how those that come in are opened. Conditions: none but the room. -/
import Derived.Test.YtkchoelegdknoaaRows
import Derived.WalkKit
import Derived.WalkSpells
import Derived.WalkLawsBesides
import Derived.Lib.Hide
import Derived.Deep.WholeRow
import Derived.Laws.AppendOwnNone
import Derived.Laws.MakeOwn
import Derived.OneCell
import Derived.OwnWalk
import Derived.Deep.DeepCutAuto
import Derived.Laws.BitsAllLaws
import Derived.Lib.SlBytesConst
import Derived.ProofKit
import Derived.SizedLaws
import Derived.OpenShut
import Derived.Below
namespace Go.Proofs.Ytkchoelegdknoaa
open Go.RowKit

theorem ret_int {k : IntKind} {a b : Int} (h : a = b) : Ending.returned (.int k a) = .returned (.int k b) := by rw [h]

/-- The slice value v reads as the bytes l in the world w. -/
structure Bts (w : World) (v : Value) (l : List Nat) : Prop where
  form : ∃ p cap, v = .slice p l.length cap ∧ (l.length ≤ cap ∧ cap ≤ 9223372036854775807) ∧ (p = none → cap = 0) ∧ (0 < l.length → ∃ b off, p = some ⟨b, off, none⟩ ∧ ∀ i, i < l.length → w.cell? ⟨b, off + i, none⟩ = some (.int .u8 (l.getD i 0 : Nat)))
  small : ∀ x ∈ l, x < 256
  len : l.length ≤ 140737488355328

theorem Bts.getD {w : World} {v : Value} {l : List Nat} (h : Bts w v l) (i : Nat) : l.getD i 0 < 256 := by
  rcases Nat.lt_or_ge i l.length with hi | hi
  · have := h.small (l.getD i 0) (by rw [List.getD_eq_getElem?_getD, List.getElem?_eq_getElem hi]; simp)
    exact this
  · rw [List.getD_eq_getElem?_getD, List.getElem?_eq_none hi]; decide

/-- What is below stays as it was, so the bytes do. -/
theorem Bts.below {w w' : World} {v : Value} {l : List Nat} (h : Bts w v l) (hb : Below w.heap.size w w') : Bts w' v l := by
  obtain ⟨p, cap, hv, hr, hn, hp⟩ := h.form
  refine ⟨⟨p, cap, hv, hr, hn, fun h0 => ?_⟩, h.small, h.len⟩
  obtain ⟨b, off, hpe, hc⟩ := hp h0
  refine ⟨b, off, hpe, fun i hi => ?_⟩
  have hci := hc i hi
  rw [hb.cell (p := ⟨b, off + i, none⟩) (block_lt_of_cell hci)]
  exact hci

/-- The first n of the bytes, by a reslice. -/
theorem Bts.take {w : World} {p : Option Addr} {cap : Nat} {l : List Nat} (h : Bts w (.slice p l.length cap) l) (n : Nat) (hn : n ≤ l.length) : Bts w (.slice p n cap) (l.take n) := by
  obtain ⟨p', cap', hv, hr, hz, hp⟩ := h.form
  simp only [Value.slice.injEq] at hv
  obtain ⟨rfl, -, rfl⟩ := hv
  have hl : (l.take n).length = n := by simp; omega
  refine ⟨⟨p, cap, by rw [hl], ⟨by omega, hr.2⟩, hz, fun h0 => ?_⟩, fun x hx => h.small x (List.mem_of_mem_take hx), by have := h.len; omega⟩
  obtain ⟨b, off, hpe, hc⟩ := hp (by omega)
  refine ⟨b, off, hpe, fun i hi => ?_⟩
  rw [hc i (by omega)]
  have : (l.take n).getD i 0 = l.getD i 0 := by
    simp only [List.getD_eq_getElem?_getD]
    rw [List.getElem?_take, if_pos (by omega)]
  rw [this]

theorem Bts.mem_take {w : World} {v : Value} {l : List Nat} (h : Bts w v l) (k : Nat) : ∀ x ∈ l.take k, x < 256 := fun x hx => h.small x (List.mem_of_mem_take hx)

theorem take_succ_getD (l : List Nat) (k : Nat) (h : k < l.length) : l.take (k + 1) = l.take k ++ [l.getD k 0] := by
  rw [List.take_succ_eq_append_getElem h, List.getD_eq_getElem?_getD, List.getElem?_eq_getElem h]; rfl

theorem info5 : (Try.prog.info? 5).map (fun i => (i.zero, i.size, i.bytes)) = some (some (.int .u8 0), 1, 1) := by kernel_rfl

def bytesV (l : List Nat) : List Value := l.map fun x : Nat => Value.int .u8 (x : Int)

theorem bytesV_length (l : List Nat) : (bytesV l).length = l.length := by simp [bytesV]

/-- Bytes appended to a row of the call's own, whatever slice they come from. -/
theorem wpList_append_bts {w : World} {ops : Array Oper} {rest : List Oper} {o : Oper} {a : Act} {Q : Exit → Act → World → Prop} (hgd : o.guard = none) (s x : Operand)
    (ho : o.op = .call { callee := .builtin .append, args := #[s, x], argTypes := #[26, 26] })
    (base : Nat) (v : Value) (n : Nat) (xs : List Value) (hs : a.eval s = v) (hown : w.ownsRow base 5 1 v n xs)
    (xv : Value) (l : List Nat) (hx : a.eval x = xv) (hB : Bts w xv l) (hlen : n + l.length ≤ 140737488355328) (hbase : base ≤ w.heap.size)
    (h : ∀ v' w', w'.ownsRow base 5 1 v' (n + l.length) (xs ++ bytesV l) → Below base w w' → wpList Try.prog ops Q rest (a.put o.dst v') w') : wpList Try.prog ops Q (o :: rest) a w := by
  obtain ⟨i0, hi, hz0, hz1, hz2⟩ := info_parts info5
  obtain ⟨p, cap, rfl, _, hn, hp⟩ := hB.form
  cases p with
  | none =>
    obtain rfl := hn rfl
    have hl0 : l.length = 0 := by
      rcases Nat.eq_zero_or_pos l.length with h0 | h0
      · exact h0
      · obtain ⟨b, off, he, _⟩ := hp h0; simp at he
    obtain rfl : l = [] := List.eq_nil_of_length_eq_zero hl0
    refine wpList_append_own_none hgd s x 26 ho base 5 i0 1 Try.underlying26 hi v n xs hs hown hx ?_
    refine h v w ?_ (Below.refl _ _)
    simpa [bytesV] using hown
  | some ad =>
    refine wpList_append_own w hgd s x 26 ho base 5 i0 (.int .u8 0) 1 1 Try.underlying26 hi hz0 hz1 hz2 rfl (by decide) v n xs hs hown ad l.length cap (bytesV l) hx (by simp [bytesV]) ?_ ?_ (by unfold maxLen; omega) (by omega) hbase ?_
    · intro j u hj
      have hjl : j < l.length := by
        rcases Nat.lt_or_ge j l.length with h1 | h1
        · exact h1
        · rw [List.getElem?_eq_none (by simpa [bytesV] using h1)] at hj; simp at hj
      obtain ⟨b, off, he, hc⟩ := hp (by omega)
      obtain rfl := Option.some.inj he
      have hadd : (⟨b, off, none⟩ : Addr).add j = ⟨b, off + j, none⟩ := by unfold Addr.add; split <;> simp_all
      rw [hadd, hc j hjl, ← hj]
      simp [bytesV, List.getElem?_eq_getElem hjl]
    · intro u hu
      simp only [bytesV, List.mem_map] at hu
      obtain ⟨y, _, rfl⟩ := hu
      rfl
    · intro v' w' hown' hgrow _
      refine h v' w' hown' ((Below.refl _ _).grown hgrow hbase ?_)
      intro k hk
      rcases hown.2 with ⟨rfl, _⟩ | ⟨g, c, cur, rfl, hg, _⟩
      · simp [Value.ownBlock] at hk
      · simp only [Value.ownBlock, Option.some.injEq] at hk
        omega

/-- What an owned row of bytes holds, cell by cell. -/
theorem owns_cells {w : World} {base g cap n : Nat} {l : List Nat} (h : w.ownsRow base 5 1 (.slice (some ⟨g, 0, none⟩) n cap) n (bytesV l)) :
    base ≤ g ∧ n ≤ cap ∧ cap ≤ maxLen ∧ l.length = n ∧ ∀ i, i < l.length → w.cell? ⟨g, i, none⟩ = some (.int .u8 (l.getD i 0 : Nat)) := by
  obtain ⟨h1, h2⟩ := h
  rcases h2 with ⟨h2, _⟩ | ⟨g', cap', cur, hv, hg, hh, h3, h4, h5, h6⟩
  · simp at h2
  · simp only [Value.slice.injEq, Option.some.injEq, Addr.mk.injEq] at hv
    obtain ⟨⟨rfl, -, -⟩, -, rfl⟩ := hv
    have hln : l.length = n := by simpa [bytesV] using h1
    refine ⟨hg, h3, h4, hln, fun i hi => ?_⟩
    rw [cell_of_row _ g i cur 5 (0, 0) hh]
    have hi2 : (cur.toList.take (n * 1))[i]? = (bytesV l)[i]? := by rw [h6]
    rw [List.getElem?_take, if_pos (by omega)] at hi2
    rw [← Array.getElem?_toList, hi2]
    simp [bytesV, List.getElem?_eq_getElem hi]

/-- An owned row of bytes reads as its bytes. -/
theorem bts_owned {w : World} {base : Nat} {v : Value} {l : List Nat} (h : w.ownsRow base 5 1 v l.length (bytesV l)) (hs : ∀ x ∈ l, x < 256) (hl : l.length ≤ 140737488355328) : Bts w v l := by
  rcases h.2 with ⟨hv, h0⟩ | ⟨g, cap, cur, hv, _⟩
  · subst hv
    exact ⟨⟨none, 0, by rw [h0], by omega, fun _ => rfl, fun h => absurd h (by omega)⟩, hs, hl⟩
  · subst hv
    obtain ⟨_, h2, h3, _, h5⟩ := owns_cells h
    refine ⟨⟨some ⟨g, 0, none⟩, cap, rfl, ⟨h2, by unfold maxLen at h3; exact h3⟩, fun h => by simp at h, fun _ => ⟨g, 0, rfl, fun i hi => ?_⟩⟩, hs, hl⟩
    rw [Nat.zero_add]
    exact h5 i hi

theorem bts_alloc (w : World) (l : List Nat) (cap : Nat) (hcap : l.length ≤ cap ∧ cap ≤ 9223372036854775807) (t : TypeId) (fr : Nat × Nat) (hs : ∀ x ∈ l, x < 256) (hl : l.length ≤ 140737488355328) :
    Bts (w.alloc (.cells (l.map fun x : Nat => Value.int .u8 (x : Int)).toArray t fr)) (.slice (some ⟨w.heap.size, 0, none⟩) l.length cap) l := by
  refine ⟨⟨_, cap, rfl, hcap, (fun h => by simp at h), fun _ => ⟨w.heap.size, 0, rfl, fun i hi => ?_⟩⟩, hs, hl⟩
  rw [cell_of_row _ w.heap.size (0 + i) _ t fr (heap_alloc_last _ _)]
  simp [List.getElem?_eq_getElem hi]


theorem strOf_conv {w : World} {v : Value} {l : List Nat} (hB : Bts w v l) :
    (convert 26 9 v).run Try.prog w = .ok (.string (strOfNums (l.map fun x : Nat => (x : Int)))) w := by
  obtain ⟨p, cap, rfl, _, hn, hp⟩ := hB.form
  rcases Nat.eq_zero_or_pos l.length with h0 | h0
  · obtain rfl : l = [] := List.eq_nil_of_length_eq_zero h0
    cases p with
    | none => exact run_convert_bytes_nil w 26 5 Try.underlying26 Try.underlying5 _ _ _ Try.underlying9
    | some ad =>
      have h := run_convert_bytes_string (P := Try.prog) w 26 9 5 (some ad) 0 cap Try.underlying26 Try.underlying5 Try.underlying9
      have h2 := run_bytesToString (P := Try.prog) w ad 0 cap [] (by rfl)
      rw [h2] at h
      exact h
  · obtain ⟨b, off, rfl, hc⟩ := hp h0
    refine run_convert_bytes_arg w 26 5 Try.underlying26 Try.underlying5 b off l.length cap (l.map fun x : Nat => (x : Int)) (by simp) (fun i hi => ?_) _ Try.underlying9
    rw [hc i hi]
    simp [List.getElem?_eq_getElem hi]

theorem grownBy_refl (w : World) (row : Option Nat) : w.grownBy w row := ⟨rfl, rfl, rfl, Nat.le_refl _, fun _ _ _ => rfl⟩
theorem grownBy_trans {a b c : World} {row : Option Nat} (h : a.grownBy b row) (k : b.grownBy c row) : a.grownBy c row :=
  ⟨k.os.trans h.os, k.tape.trans h.tape, k.output.trans h.output, Nat.le_trans h.size k.size, fun i hi hr => (k.block i (Nat.lt_of_lt_of_le hi h.size) hr).trans (h.block i hi hr)⟩
theorem grownBy_below {a b : World} (h : Below a.heap.size a b) (row : Option Nat) : a.grownBy b row := ⟨h.os, h.tape, h.output, h.size, fun k hk _ => h.block k hk⟩
theorem grownBy_setCell (w : World) (B o : Nat) (u : Value) : w.grownBy (w.setCell ⟨B, o, none⟩ u) (some B) :=
  ⟨rfl, rfl, rfl, by simp [World.setCell], fun k _ hr => Below.heap_setCell _ _ _ _ (fun e => hr (by rw [e]))⟩
theorem grownBy_drew (w : World) (row : Option Nat) : w.grownBy w.drew row := ⟨rfl, rfl, rfl, Nat.le_refl _, fun _ _ _ => rfl⟩
theorem below_grown {B0 B : Nat} {a b c : World} (h : Below B0 a b) (k : b.grownBy c (some B)) (h0 : B0 ≤ b.heap.size) (hB : B0 ≤ B) : Below B0 a c :=
  h.grown k h0 (fun i hi => by cases hi; exact hB)

/-- A block's bytes stay where another block alone was written. -/
theorem Bts.grown {w w' : World} {v : Value} {l : List Nat} {row : Option Nat} (h : Bts w v l) (hg : w.grownBy w' row) (hne : 0 < l.length → v.ownBlock ≠ row) : Bts w' v l := by
  obtain ⟨p, cap, hv, hr, hn, hp⟩ := h.form
  refine ⟨⟨p, cap, hv, hr, hn, fun h0 => ?_⟩, h.small, h.len⟩
  obtain ⟨b, off, hpe, hc⟩ := hp h0
  refine ⟨b, off, hpe, fun i hi => ?_⟩
  refine hg.cell (hc i hi) ?_
  have := hne h0
  rw [hv, hpe] at this
  exact this

/-- What is behind the first n of the bytes, by a reslice. -/
theorem Bts.drop {w : World} {b off cap : Nat} {l : List Nat} (h : Bts w (.slice (some ⟨b, off, none⟩) l.length cap) l) (n : Nat) (hn : n ≤ l.length) : Bts w (.slice (some ⟨b, off + n, none⟩) (l.length - n) (cap - n)) (l.drop n) := by
  obtain ⟨p', cap', hv, hr, hz, hp⟩ := h.form
  simp only [Value.slice.injEq] at hv
  obtain ⟨rfl, -, rfl⟩ := hv
  have hl : (l.drop n).length = l.length - n := by simp
  refine ⟨⟨_, _, by rw [hl], ⟨by omega, by omega⟩, (fun h => by simp at h), fun h0 => ?_⟩, fun x hx => h.small x (List.mem_of_mem_drop hx), by have := h.len; omega⟩
  obtain ⟨b', off', hpe, hc⟩ := hp (by omega)
  simp only [Option.some.injEq, Addr.mk.injEq] at hpe
  obtain ⟨rfl, rfl, -⟩ := hpe
  refine ⟨b, off + n, rfl, fun i hi => ?_⟩
  rw [show off + n + i = off + (n + i) by omega, hc (n + i) (by omega)]
  simp [List.getD_eq_getElem?_getD]

/-- No bytes. -/
theorem bts_zero (w : World) (a : Addr) (n cap : Nat) (h : n = 0) (hc : cap ≤ 9223372036854775807) : Bts w (.slice (some a) n cap) [] := by
  subst h
  exact ⟨⟨_, _, rfl, ⟨Nat.zero_le _, hc⟩, (fun h => by simp at h), fun h => absurd h (by simp)⟩, by simp, by simp⟩

/-- A row of bytes that may be written, whatever they are. -/
def Row (w : World) (g n : Nat) : Prop := ∃ cur : Array Value, w.heap[g]? = some (.cells cur 5 (0, 0)) ∧ n ≤ cur.size ∧ ∀ i, i < n → ∃ b : Nat, b < 256 ∧ cur[i]? = some (.int .u8 (b : Int))

theorem Row.cell {w : World} {g n : Nat} (h : Row w g n) (i : Nat) (hi : i < n) : ∃ b : Nat, b < 256 ∧ w.cell? ⟨g, i, none⟩ = some (.int .u8 (b : Int)) := by
  obtain ⟨cur, hh, hs, hc⟩ := h
  obtain ⟨b, hb, hcur⟩ := hc i hi
  exact ⟨b, hb, by rw [cell_of_row _ g i cur 5 (0, 0) hh]; exact hcur⟩

theorem Row.free {w : World} {g n : Nat} (h : Row w g n) (i : Nat) : w.frozen? ⟨g, i, none⟩ = false := by
  obtain ⟨cur, hh, hs, hc⟩ := h
  simp [World.frozen?, hh]

theorem Row.lt {w : World} {g n : Nat} (h : Row w g n) : g < w.heap.size := by
  obtain ⟨cur, hh, _⟩ := h; exact lt_of_block hh

theorem Row.set {w : World} {g n : Nat} (h : Row w g n) (i b : Nat) (hb : b < 256) : Row (w.setCell ⟨g, i, none⟩ (.int .u8 (b : Int))) g n := by
  obtain ⟨cur, hh, hs, hc⟩ := h
  have hlt := lt_of_block hh
  have h' : w.heap[g] = .cells cur 5 (0, 0) := by simpa [Array.getElem?_eq_getElem hlt] using hh
  refine ⟨cur.setIfInBounds i (.int .u8 (b : Int)), ?_, by simpa using hs, fun j hj => ?_⟩
  · show (w.heap.modify g _)[g]? = _
    rw [Array.getElem?_eq_getElem (by simpa using hlt), Array.getElem_modify_self, h']
    rfl
  · obtain ⟨c, hc1, hc2⟩ := hc j hj
    by_cases hij : i = j
    · subst hij
      exact ⟨b, hb, by rw [Array.getElem?_setIfInBounds_self_of_lt (by omega)]⟩
    · exact ⟨c, hc1, by rw [Array.getElem?_setIfInBounds_ne hij]; exact hc2⟩

theorem Row.grown {w w' : World} {g n : Nat} {row : Option Nat} (h : Row w g n) (hg : w.grownBy w' row) (hne : some g ≠ row) : Row w' g n := by
  obtain ⟨cur, hh, hs, hc⟩ := h
  exact ⟨cur, by rw [hg.block g (lt_of_block hh) hne]; exact hh, hs, hc⟩

theorem Row.below {w w' : World} {g n : Nat} (h : Row w g n) (hb : Below w.heap.size w w') : Row w' g n := h.grown (row := none) (grownBy_below hb none) (by simp)

/-- What the call owns is a row. -/
theorem row_owned {w : World} {base g cap n : Nat} {l : List Nat} (h : w.ownsRow base 5 1 (.slice (some ⟨g, 0, none⟩) n cap) n (bytesV l)) (hs : ∀ x ∈ l, x < 256) : Row w g n := by
  obtain ⟨h1, h2⟩ := h
  rcases h2 with ⟨h2, _⟩ | ⟨g', cap', cur, hv, hg, hh, h3, h4, h5, h6⟩
  · simp at h2
  · simp only [Value.slice.injEq, Option.some.injEq, Addr.mk.injEq] at hv
    obtain ⟨⟨rfl, -, -⟩, -, rfl⟩ := hv
    have hln : l.length = n := by simpa [bytesV] using h1
    refine ⟨cur, hh, by omega, fun i hi => ?_⟩
    have hi2 : (cur.toList.take (n * 1))[i]? = (bytesV l)[i]? := by rw [h6]
    rw [List.getElem?_take, if_pos (by omega)] at hi2
    refine ⟨l[i]'(by omega), hs _ (List.getElem_mem _), ?_⟩
    rw [← Array.getElem?_toList, hi2]
    simp [bytesV, List.getElem?_eq_getElem (show i < l.length by omega)]

/-- What lent hands back: the bytes in new memory, with 77 and 78 behind them. -/
structure LentAt (w w' : World) (l : List Nat) (g cap : Nat) : Prop where
  room : l.length + 2 ≤ cap
  most : cap ≤ maxLen
  new : w.heap.size ≤ g
  cells : ∀ i, i < l.length + 2 → w'.cell? ⟨g, i, none⟩ = some (.int .u8 ((l ++ [77, 78]).getD i 0 : Nat))
  below : Below w.heap.size w w'
  row : Row w' g (l.length + 2)

def Lent (w w' : World) (l : List Nat) (e : Ending) : Prop := ∃ g cap, e = .returned (.slice (some ⟨g, 0, none⟩) l.length cap) ∧ LentAt w w' l g cap

theorem LentAt.bts {w w' : World} {l : List Nat} {g cap : Nat} (h : LentAt w w' l g cap) (hs : ∀ x ∈ l, x < 256) (hl : l.length ≤ 140737488355328) : Bts w' (.slice (some ⟨g, 0, none⟩) l.length cap) l := by
  refine ⟨⟨_, cap, rfl, ⟨by have := h.room; omega, h.most⟩, fun h => by simp at h, fun _ => ⟨g, 0, rfl, fun i hi => ?_⟩⟩, hs, hl⟩
  rw [Nat.zero_add, h.cells i (by omega)]
  simp [List.getElem?_append_left hi]

theorem LentAt.later {w0 w w' : World} {l : List Nat} {g cap : Nat} (h : LentAt w0 w l g cap) (hb : Below w.heap.size w w') : LentAt w0 w' l g cap := by
  refine ⟨h.room, h.most, h.new, fun i hi => ?_, h.below.trans (hb.mono h.below.size), h.row.below hb⟩
  have hc := h.cells i hi
  rw [hb.cell (p := ⟨g, i, none⟩) (block_lt_of_cell hc)]
  exact hc

/-- What a call hands back: the bytes l in memory of its own, from block number base on. -/
structure Own (base : Nat) (w : World) (v : Value) (l : List Nat) : Prop where
  own : w.ownsRow base 5 1 v l.length (bytesV l)
  small : ∀ x ∈ l, x < 256
  len : l.length ≤ 140737488355328

theorem Own.bts {base : Nat} {w : World} {v : Value} {l : List Nat} (h : Own base w v l) : Bts w v l := bts_owned h.own h.small h.len

theorem Own.form {base : Nat} {w : World} {v : Value} {l : List Nat} (h : Own base w v l) : (v = .slice none 0 0 ∧ l = []) ∨ ∃ g cap, v = .slice (some ⟨g, 0, none⟩) l.length cap ∧ base ≤ g ∧ l.length ≤ cap ∧ cap ≤ maxLen ∧ Row w g l.length := by
  rcases h.own.2 with ⟨hv, h0⟩ | ⟨g, cap, cur, hv, hg, hh, h3, h4, h5, h6⟩
  · exact Or.inl ⟨hv, List.eq_nil_of_length_eq_zero h0⟩
  · subst hv
    exact Or.inr ⟨g, cap, rfl, hg, h3, h4, row_owned h.own h.small⟩

theorem Own.grown {base : Nat} {w w' : World} {v : Value} {l : List Nat} {row : Option Nat} (h : Own base w v l) (hg : w.grownBy w' row) (hne : v.ownBlock = none ∨ v.ownBlock ≠ row) : Own base w' v l := ⟨h.own.kept hg hne, h.small, h.len⟩
theorem Own.below {base : Nat} {w w' : World} {v : Value} {l : List Nat} (h : Own base w v l) (hb : Below w.heap.size w w') : Own base w' v l :=
  h.grown (row := none) (grownBy_below hb none) (by cases hv : v.ownBlock <;> simp)
theorem Own.from {base base' : Nat} {w : World} {v : Value} {l : List Nat} (h : Own base w v l) (hb : base' ≤ base) : Own base' w v l := by
  refine ⟨⟨h.own.1, ?_⟩, h.small, h.len⟩
  rcases h.own.2 with h2 | ⟨g, cap, cur, hv, hg, r⟩
  · exact Or.inl h2
  · exact Or.inr ⟨g, cap, cur, hv, Nat.le_trans hb hg, r⟩

theorem own_nil (base : Nat) (w : World) : Own base w (.slice none 0 0) [] := ⟨⟨rfl, Or.inl ⟨rfl, rfl⟩⟩, by simp, by decide⟩

/-- Bytes appended to what the call owns. -/
theorem wpList_append_Own {w : World} {ops : Array Oper} {rest : List Oper} {o : Oper} {a : Act} {Q : Exit → Act → World → Prop} (hgd : o.guard = none) (s x : Operand)
    (ho : o.op = .call { callee := .builtin .append, args := #[s, x], argTypes := #[26, 26] })
    (base : Nat) (v : Value) (l1 : List Nat) (hs : a.eval s = v) (hown : Own base w v l1)
    (xv : Value) (l2 : List Nat) (hx : a.eval x = xv) (hB : Bts w xv l2) (hlen : l1.length + l2.length ≤ 140737488355328) (hbase : base ≤ w.heap.size)
    (h : ∀ v' w', Own base w' v' (l1 ++ l2) → Below base w w' → w.grownBy w' v.ownBlock → wpList Try.prog ops Q rest (a.put o.dst v') w') : wpList Try.prog ops Q (o :: rest) a w := by
  obtain ⟨i0, hi, hz0, hz1, hz2⟩ := info_parts info5
  have hsm : ∀ x ∈ l1 ++ l2, x < 256 := by
    intro y hy
    rcases List.mem_append.1 hy with hy | hy
    · exact hown.small y hy
    · exact hB.small y hy
  have hb : bytesV l1 ++ bytesV l2 = bytesV (l1 ++ l2) := by simp [bytesV]
  obtain ⟨p, cap, rfl, _, hn, hp⟩ := hB.form
  cases p with
  | none =>
    obtain rfl := hn rfl
    have hl0 : l2.length = 0 := by
      rcases Nat.eq_zero_or_pos l2.length with h0 | h0
      · exact h0
      · obtain ⟨b, off, he, _⟩ := hp h0; simp at he
    obtain rfl : l2 = [] := List.eq_nil_of_length_eq_zero hl0
    refine wpList_append_own_none hgd s x 26 ho base 5 i0 1 Try.underlying26 hi v l1.length (bytesV l1) hs hown.own hx ?_
    refine h v w ?_ (Below.refl _ _) (grownBy_refl _ _)
    simpa using hown
  | some ad =>
    refine wpList_append_own w hgd s x 26 ho base 5 i0 (.int .u8 0) 1 1 Try.underlying26 hi hz0 hz1 hz2 rfl (by decide) v l1.length (bytesV l1) hs hown.own ad l2.length cap (bytesV l2) hx (by simp [bytesV]) ?_ ?_ (by unfold maxLen; omega) (by omega) hbase ?_
    · intro j u hj
      have hjl : j < l2.length := by
        rcases Nat.lt_or_ge j l2.length with h1 | h1
        · exact h1
        · rw [List.getElem?_eq_none (by simpa [bytesV] using h1)] at hj; simp at hj
      obtain ⟨b, off, he, hc⟩ := hp (by omega)
      obtain rfl := Option.some.inj he
      have hadd : (⟨b, off, none⟩ : Addr).add j = ⟨b, off + j, none⟩ := by unfold Addr.add; split <;> simp_all
      rw [hadd, hc j hjl, ← hj]
      simp [bytesV, List.getElem?_eq_getElem hjl]
    · intro u hu
      simp only [bytesV, List.mem_map] at hu
      obtain ⟨y, _, rfl⟩ := hu
      rfl
    · intro v' w' hown' hgrow _
      rw [hb, ← List.length_append] at hown'
      refine h v' w' ⟨hown', hsm, by simp; omega⟩ ((Below.refl _ _).grown hgrow hbase ?_) hgrow
      intro k hk
      rcases hown.own.2 with ⟨rfl, _⟩ | ⟨g, c, cur, rfl, hg, _⟩
      · simp [Value.ownBlock] at hk
      · simp only [Value.ownBlock, Option.some.injEq] at hk
        omega

/-- An empty slice of the call's own. -/
theorem own_empty (w : World) (base cap : Nat) (cs : Array Value) (hb : base ≤ w.heap.size) (hm : cap ≤ maxLen) (hs : cs.size = cap * 1) : Own base (w.alloc (.cells cs 5)) (.slice (some ⟨w.heap.size, 0, none⟩) 0 cap) [] :=
  ⟨World.ownsRow_made w cs cap hb hm hs, by simp, by decide⟩

/-- A new slice without elements, with room for c bytes. -/
theorem wpList_make_Own {w : World} {ops : Array Oper} {rest : List Oper} {o : Oper} {a : Act} {Q : Exit → Act → World → Prop} (hgd : o.guard = none) (x c : Operand)
    (hop : o.op = Op.makeSlice 26 x c) (base : Nat) (kl kc : IntKind) (C : Int) (n : Nat) (hl : a.eval x = .int kl 0) (hc : a.eval c = .int kc C) (hC : C = (n : Int)) (hn : n ≤ 140737488355328) (hbase : base ≤ w.heap.size)
    (h : ∀ v' w', Own base w' v' [] → Below base w w' → wpList Try.prog ops Q rest (a.put o.dst v') w') : wpList Try.prog ops Q (o :: rest) a w := by
  obtain ⟨i0, hi, hz0, hz1, hz2⟩ := info_parts info5
  refine wpList_make_own w hgd x c 26 hop base 5 i0 (.int .u8 0) 1 Try.underlying26 hi hz0 hz1 kl kc C n hl hc hC (by rw [hz2]; omega) (by unfold maxLen; omega) hbase ?_
  intro w' hown hg
  exact h _ w' ⟨hown, by simp, by decide⟩ ((Below.refl _ _).grown hg hbase (fun k hk => by cases hk))

/-- One byte appended to what the call owns. -/
theorem wpList_append_byte {w : World} {ops : Array Oper} {rest : List Oper} {o : Oper} {a : Act} {Q : Exit → Act → World → Prop} {z : Int} (hgd : o.guard = none) (s x : Operand)
    (ho : o.op = .call { callee := .builtin .append, args := #[s, x], argTypes := #[26, 26] })
    (base : Nat) (v : Value) (l : List Nat) (hs : a.eval s = v) (hown : Own base w v l)
    (hx : a.eval x = .slice (some ⟨w.heap.size, 0, none⟩) 1 1) (b : Nat) (hz : z = (b : Int)) (hb : b < 256) (hlen : l.length + 1 ≤ 140737488355328) (hbase : base ≤ w.heap.size)
    (h : ∀ v' w', Own base w' v' (l ++ [b]) → Below base w w' → wpList Try.prog ops Q rest (a.put o.dst v') w') : wpList Try.prog ops Q (o :: rest) a (w.alloc (.cells #[.int .u8 z] 5)) := by
  subst hz
  have hal : Below base w (w.alloc (.cells #[.int .u8 (b : Int)] 5)) := (Below.refl _ _).alloc hbase _
  refine wpList_append_Own hgd s x ho base v l hs (hown.below ((Below.refl _ _).alloc (Nat.le_refl _) _)) _ [b] hx (bts_alloc w [b] 1 (by simp) 5 (0, 0) (by simpa using hb) (by simp)) (by simpa using hlen) (Nat.le_trans hbase hal.size) ?_
  · intro v' w' ho' hb' _
    exact h v' w' ho' (hal.trans hb')

end Go.Proofs.Ytkchoelegdknoaa
namespace Go.Proofs.Ytkchoelegdknoaa
open Go.ChangeShapes Go.WideShapes Go.ChangeAt Go.RowKit

theorem cells5 : Try.prog.cellsOf 5 = 1 := by kernel_rfl
theorem bytes5 : Try.prog.bytesOf 5 = 1 := by kernel_rfl

theorem nat_of_u8 {n : Int} (h : (Lit.int .u8 n).wf = true) : ∃ m : Nat, m < 256 ∧ n = (m : Int) := by
  have h1 : IntKind.u8.min = 0 := rfl
  have h2 : IntKind.u8.max = 255 := rfl
  simp only [Lit.wf, Bool.and_eq_true, decide_eq_true_eq] at h
  exact ⟨n.toNat, by omega, by omega⟩

theorem nat_of_u32 {n : Int} (h : (Lit.int .u32 n).wf = true) : ∃ m : Nat, m < 4294967296 ∧ n = (m : Int) := by
  have h1 : IntKind.u32.min = 0 := rfl
  have h2 : IntKind.u32.max = 4294967295 := rfl
  simp only [Lit.wf, Bool.and_eq_true, decide_eq_true_eq] at h
  exact ⟨n.toNat, by omega, by omega⟩

theorem nat_of_u64 {n : Int} (h : (Lit.int .u64 n).wf = true) : ∃ m : Nat, m < 18446744073709551616 ∧ n = (m : Int) := by
  have h1 : IntKind.u64.min = 0 := rfl
  have h2 : IntKind.u64.max = 18446744073709551615 := rfl
  simp only [Lit.wf, Bool.and_eq_true, decide_eq_true_eq] at h
  exact ⟨n.toNat, by omega, by omega⟩

/-- A slice of bytes that comes in: its bytes, and their number told by the reading. -/
theorem open_bts {H : Type} {enc : TypeId × Value → H} {W : World} {base : Nat} {spare : Nat → Bool} {held : Bool} {a : Option Addr} {len cap : Nat} {d : DataW H} {ps : List MemPlace}
    (h : DataW.Trod enc Try.prog W base spare held 26 (.slice a len cap) d ps) :
    ∃ l : List Nat, (l.length ≤ 140737488355328 → Bts W (.slice a len cap) l) ∧ (l = [] ∨ ∃ elems rest, d = .slice elems rest ∧ l.length ≤ elems.length) := by
  obtain ⟨fuel, hf⟩ := h
  rcases open_ints Try.underlying26 Try.underlying5 cells5 hf with ⟨hcs, _⟩ | ⟨x, l, c, zs, hcs, _, hl, hm, hz, hx, hcell, hwz⟩
  · simp [Value.cells] at hcs
    obtain ⟨rfl, rfl, rfl⟩ := hcs
    exact ⟨[], fun _ => ⟨⟨none, 0, rfl, by decide, fun _ => rfl, fun h => absurd h (by decide)⟩, by simp, by decide⟩, Or.inl rfl⟩
  · simp [Value.cells] at hcs
    obtain ⟨rfl, rfl, rfl⟩ := hcs
    have hlen : len ≤ zs.length := by rw [hz]; split <;> omega
    have hnat : ∀ i, i < len → (((zs.take len).map Int.toNat).getD i 0 : Nat) = zs.getD i 0 ∧ ((zs.take len).map Int.toNat).getD i 0 < 256 := by
      intro i hi
      have hi2 : i < zs.length := by omega
      obtain ⟨m, hm1, hm2⟩ := nat_of_u8 (hwz zs[i] (List.getElem_mem hi2))
      have e1 : ((zs.take len).map Int.toNat).getD i 0 = zs[i].toNat := by
        simp [hi, List.getElem?_eq_getElem hi2]
      have e2 : zs.getD i 0 = zs[i] := by simp [List.getElem?_eq_getElem hi2]
      rw [e1, e2, hm2]
      exact ⟨by simp, by simpa using hm1⟩
    have hll : ((zs.take len).map Int.toNat).length = len := by simp; omega
    refine ⟨(zs.take len).map Int.toNat, fun hb => ⟨⟨some x, cap, by rw [hll], ⟨by omega, by unfold maxLen at hm; exact hm⟩, fun h => by simp at h, fun h0 => ?_⟩, ?_, hb⟩, Or.inr ⟨_, _, (Prod.mk.inj hx).1, by simp [lits]⟩⟩
    · rw [hll] at h0 ⊢
      obtain ⟨b, off, spot⟩ := x
      have hspot : spot = none := by
        have hc := hcell 0 (by omega)
        simpa [Addr.add] using World.cell?_spot hc
      subst hspot
      refine ⟨b, off, rfl, fun i hi => ?_⟩
      have hadd : (⟨b, off, none⟩ : Addr).add i = ⟨b, off + i, none⟩ := by unfold Addr.add; split <;> simp_all
      rw [← hadd, hcell i (by omega), (hnat i hi).1]
    · intro y hy
      obtain ⟨i, hi, rfl⟩ := List.getElem_of_mem hy
      have h2 := (hnat i (by omega)).2
      rw [List.getD_eq_getElem?_getD, List.getElem?_eq_getElem hi] at h2
      exact h2

/-- .. and with the reach of the row, without a condition. -/
theorem reach_bts {H : Type} {P : Program} (hP : P = Try.prog) {ts : List TypeId} {ds : List (DataW H)} (hsz : (DataW.weightsEach P ts ds).all (· ≤ reachBytes) = true) {j : Nat} {d : DataW H} {l : List Nat}
    (ht : ts[j]? = some 26) (hd : ds[j]? = some d) (h : l = [] ∨ ∃ elems rest, d = .slice elems rest ∧ l.length ≤ elems.length) : l.length ≤ 140737488351232 := by
  subst hP
  rcases h with rfl | ⟨elems, rest, rfl, hl⟩
  · decide
  · have := sized_slice hsz ht hd Try.underlying26
    rw [bytes5] at this
    have hr : reachBytes = 140737488351232 := rfl
    omega
end Go.Proofs.Ytkchoelegdknoaa
