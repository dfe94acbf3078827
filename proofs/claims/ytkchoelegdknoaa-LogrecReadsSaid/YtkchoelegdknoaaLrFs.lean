/- The document's reading of a record, while the record is filled: the reader, the record and what is answered lie in three blocks. Conditions: none. -/
import Derived.Test.YtkchoelegdknoaaLrTakeM
import Derived.Test.YtkchoelegdknoaaCodeRRdT
import Derived.Test.YtkchoelegdknoaaLay
namespace Go.Proofs.Ytkchoelegdknoaa
open Go.RowKit

abbrev zA : Array Value := #[.int .i64 0, .int .u64 0, .int .u32 0, .int .u64 0, .int .u32 0, .int .u16 0, .slice none 0 0, .slice none 0 0, .slice none 0 0, .int .u64 0, .int .u64 0, .bool false, .int .u64 0, .slice none 0 0, .slice none 0 0]
/-- The reader lies in r, the record in y, what is answered in Q; what is read is of the call's own, from M on. -/
structure Fs (Q r y M : Nat) (w : World) (A : Array Value) (l : List Nat) (e : Nat) (v : World) : Prop where
  rd : Rd 79 (fun b => b < Q) v r l e
  qrow : v.heap[Q]? = some (.cells #[.int .i64 0, .int .u64 0, .int .u32 0, .int .u64 0, .int .u32 0, .int .u16 0, .slice none 0 0, .slice none 0 0, .slice none 0 0, .int .u64 0, .int .u64 0, .bool false, .int .u64 0, .slice none 0 0, .slice none 0 0] 30 (0, 0))
  yrow : v.heap[y]? = some (.cells A 30 (0, 0))
  below : Below Q w v
  lt : Q < r ∧ r < y ∧ y < M ∧ M ≤ v.heap.size

section
variable {Q r y M e : Nat} {w v v' : World} {A : Array Value} {l : List Nat}
theorem Fs.read (h : Fs Q r y M w A l e v) {l' : List Nat} {e' : Nat} (hr : Rd 79 (fun b => b < Q) v' r l' e') (hg : v.grownBy v' (some r)) : Fs Q r y M w A l' e' v' := by
  obtain ⟨h1, h2, h3, h4⟩ := h.lt
  refine ⟨hr, ?_, ?_, ?_, h1, h2, h3, Nat.le_trans h4 hg.size⟩
  · rw [hg.block _ (lt_of_block h.qrow) (fun e => by have := Option.some.inj e; omega)]; exact h.qrow
  · rw [hg.block _ (lt_of_block h.yrow) (fun e => by have := Option.some.inj e; omega)]; exact h.yrow
  · exact h.below.grown hg (Nat.le_trans (by omega) h4) (fun k hk => by rw [← Option.some.inj hk]; omega)
theorem Fs.other (h : Fs Q r y M w A l e v) {row : Option Nat} (hg : v.grownBy v' row) (hr : ∀ g, row = some g → M ≤ g) : Fs Q r y M w A l e v' := by
  obtain ⟨h1, h2, h3, h4⟩ := h.lt
  refine ⟨h.rd.grown hg (fun g hg => ⟨by have := hr g hg; omega, by have := hr g hg; omega⟩), ?_, ?_, ?_, h1, h2, h3, Nat.le_trans h4 hg.size⟩
  · rw [hg.block _ (lt_of_block h.qrow) (fun e => by have := hr _ e.symm; omega)]; exact h.qrow
  · rw [hg.block _ (lt_of_block h.yrow) (fun e => by have := hr _ e.symm; omega)]; exact h.yrow
  · exact h.below.grown hg (Nat.le_trans (by omega) h4) (fun k hk => by have := hr k hk; omega)
theorem Fs.beyond (h : Fs Q r y M w A l e v) (hb : Below M v v') : Fs Q r y M w A l e v' := by
  obtain ⟨h1, h2, h3, h4⟩ := h.lt
  obtain ⟨s, hh, hB, hlo, hbs⟩ := h.rd
  refine ⟨⟨s, ?_, ?_, hlo, hbs⟩, ?_, ?_, ?_, h1, h2, h3, Nat.le_trans h4 hb.size⟩
  · rw [hb.block _ (by omega)]; exact hh
  · obtain ⟨p, cap, hv, hr, hn, hp⟩ := hB.form
    refine ⟨⟨p, cap, hv, hr, hn, fun h0 => ?_⟩, hB.small, hB.len⟩
    obtain ⟨b, off, hpe, hc⟩ := hp h0
    refine ⟨b, off, hpe, fun j hj => ?_⟩
    have hbl : b < Q := hbs h0 b (by rw [hv, hpe]; rfl)
    have hcj := hc j hj
    rw [← hcj]
    exact hb.cell (p := ⟨b, off + j, none⟩) (by show b < M; omega)
  · rw [hb.block _ (by omega)]; exact h.qrow
  · rw [hb.block _ (by omega)]; exact h.yrow
  · exact h.below.trans (hb.mono (by omega))
theorem Fs.set (h : Fs Q r y M w A l e v) (i : Nat) (u : Value) : Fs Q r y M w (A.setIfInBounds i u) l e (v.setCell ⟨y, i, none⟩ u) := by
  obtain ⟨h1, h2, h3, h4⟩ := h.lt
  have hg := grownBy_setCell v y i u
  refine ⟨h.rd.grown hg (fun g hg => ⟨by have := Option.some.inj hg; omega, by have := Option.some.inj hg; omega⟩), ?_, rec_set u h.yrow, ?_, h1, h2, h3, Nat.le_trans h4 hg.size⟩
  · rw [hg.block _ (lt_of_block h.qrow) (fun e => by have := Option.some.inj e; omega)]; exact h.qrow
  · exact h.below.grown hg (Nat.le_trans (by omega) h4) (fun k hk => by rw [← Option.some.inj hk]; omega)
theorem Fs.cell (h : Fs Q r y M w A l e v) (i : Nat) (hi : i < A.size) : ∃ u, v.cell? ⟨y, i, none⟩ = some u := by
  rw [cell_of_row _ y i _ _ (0, 0) h.yrow]
  exact ⟨_, Array.getElem?_eq_getElem hi⟩
theorem Fs.free (h : Fs Q r y M w A l e v) (i : Nat) : v.frozen? ⟨y, i, none⟩ = false := rec_free h.yrow i
theorem Fs.err (h : Fs Q r y M w A l e v) : v.cell? ⟨r, 1, none⟩ = some (.int .i64 (e : Int)) := by
  obtain ⟨s, hh, -⟩ := h.rd
  exact cell2_1 hh
/-- A number is read. -/
theorem Fs.num (h : Fs Q r y M w A l e v) (c : Nat) (ci : Int) (hci : ci = (c : Int)) (hc1 : 1 ≤ c) (hc8 : c ≤ 8) :
    Calls Try.prog 56 #[.pointer (some ⟨r, 0, none⟩), .int .i64 ci] v fun en v' => ∃ x l' e', Cod.rdNum c l e = (x, l', e') ∧ x < 256 ^ c ∧ en = .returned (.int .u64 (x : Int)) ∧ Fs Q r y M w A l' e' v' ∧ v.grownBy v' (some r) := by
  subst hci
  refine (refNum_any (fun b => b < Q) r e c l v h.rd hc1 hc8).mono ?_
  rintro en v' ⟨rfl, hR, hg⟩
  obtain ⟨s, hS⟩ := h.rd
  exact ⟨_, _, _, rfl, Cod.rdNum_lt c l e hS.2.1.small, rfl, h.read hR hg, hg⟩
/-- A count is read. -/
theorem Fs.uv (h : Fs Q r y M w A l e v) :
    Calls Try.prog 58 #[.pointer (some ⟨r, 0, none⟩)] v fun en v' => ∃ x l' e', Cod.rdUv l e = (x, l', e') ∧ en = .returned (.int .u64 (x : Int)) ∧ Fs Q r y M w A l' e' v' ∧ v.grownBy v' (some r) := by
  refine (refRUv_any (fun b => b < Q) r e l v h.rd).mono ?_
  rintro en v' ⟨rfl, hR, hg⟩
  exact ⟨_, _, _, rfl, rfl, h.read hR hg, hg⟩
/-- A text is read. -/
theorem Fs.text (h : Fs Q r y M w A l e v) (most : Int) (hm : most ≤ 9223372036854775807) :
    Calls Try.prog 57 #[.pointer (some ⟨r, 0, none⟩), .int .i64 most] v fun en v' => ∃ t p c l' e', Cod.rdText most l e = (t, l', e') ∧ (t.length : Int) ≤ max most 0 ∧ en = .returned (.slice p t.length c) ∧ Own M v' (.slice p t.length c) t ∧ Fs Q r y M w A l' e' v' ∧ v.grownBy v' (some r) := by
  refine (refRText_any (fun b => b < Q) r e l most v h.rd hm).mono ?_
  rintro en v' ⟨z, rfl, hO, hR, hg⟩
  obtain ⟨p, c, rfl⟩ := hO.bts.slice
  exact ⟨_, p, c, _, _, rfl, Cod.rdText_len most l e, rfl, hO.from h.lt.2.2.2, h.read hR hg, hg⟩
end
/-- A number is read, ahead of the record. -/
theorem rd_num {lo : Nat → Prop} {r e : Nat} {v : World} {l : List Nat} (h : Rd 79 lo v r l e) (c : Nat) (ci : Int) (hci : ci = (c : Int)) (hc1 : 1 ≤ c) (hc8 : c ≤ 8) :
    Calls Try.prog 56 #[.pointer (some ⟨r, 0, none⟩), .int .i64 ci] v fun en v' => ∃ x l' e', Cod.rdNum c l e = (x, l', e') ∧ x < 256 ^ c ∧ en = .returned (.int .u64 (x : Int)) ∧ Rd 79 lo v' r l' e' ∧ v.grownBy v' (some r) := by
  subst hci
  refine (refNum_any lo r e c l v h hc1 hc8).mono ?_
  rintro en v' ⟨rfl, hR, hg⟩
  obtain ⟨s, hS⟩ := h
  exact ⟨_, _, _, rfl, Cod.rdNum_lt c l e hS.2.1.small, rfl, hR, hg⟩
theorem Fs.start {Q r e : Nat} {w v : World} {l : List Nat} (hR : Rd 79 (fun b => b < Q) v r l e) (hz : v.heap[Q]? = some (.cells zA 30 (0, 0))) (hk : Below Q w v) (hQ : Q < r) : Fs Q r v.heap.size (v.heap.size + 1) w zA l e (v.alloc zobj) := by
  have hb := below_new1 v zobj
  refine ⟨hR.below hb, (hb.block _ (lt_of_block hz)).trans hz, zblk v, hk.trans (hb.mono (Nat.le_of_lt (lt_of_block hz))), hQ, hR.lt, Nat.lt_succ_self _, ?_⟩
  have := lt_of_block (zblk v)
  omega
theorem not_here {base : Nat} {w : World} {v : Value} {n : Nat} {cs : List Value} {T : TypeId} {k : Nat} (h : (v = .slice none 0 0 ∧ n = 0) ∨ ∃ g cap cur, v = .slice (some ⟨g, 0, none⟩) n cap ∧ base ≤ g ∧ w.heap[g]? = some (.cells cur T (0, 0)) ∧ n ≤ cap ∧ cap ≤ maxLen ∧ cur.size = cap * k ∧ cur.toList.take (n * k) = cs) : v.ownBlock ≠ some w.heap.size := by
  rcases h with ⟨rfl, -⟩ | ⟨g, cap, cur, rfl, -, hh, -⟩
  · simp [Value.ownBlock]
  · have := lt_of_block hh
    simp only [Value.ownBlock, ne_eq, Option.some.injEq]; omega
theorem chr_dir_apart {M : Nat} {w : World} {v z : Value} {C : List Lr.Ch} {D : List Lr.Di} (h : Chr.Own M w v C) (k : Dir.Own M w z D) : v.ownBlock = none ∨ v.ownBlock ≠ z.ownBlock := by
  rcases h.2 with ⟨rfl, -⟩ | ⟨g, cap, cur, rfl, -, hh, -⟩
  · exact Or.inl rfl
  · right
    rcases k.2 with ⟨rfl, -⟩ | ⟨g2, cap2, cur2, rfl, -, hh2, -⟩
    · simp [Value.ownBlock]
    · simp only [Value.ownBlock, ne_eq, Option.some.injEq]
      rintro rfl
      rw [hh] at hh2
      simp at hh2
theorem u32_of {x : Nat} (h : x < 256 ^ 4) : IntKind.u32.wrap (x : Int) = (x : Int) := by rw [IntKind.wrap_u32]; omega
theorem u16_of {x : Nat} (h : x < 256 ^ 2) : IntKind.u16.wrap (x : Int) = (x : Int) := by rw [IntKind.wrap_u16]; omega
theorem i64_of {x : Nat} (h : x < 256 ^ 1) : IntKind.i64.wrap (x : Int) = (x : Int) := IntWalk.i64_in _ (by omega)

/-- What the last region leaves, operation by operation. -/
def FfF (A : Array Value) (r e : Nat) (i : Nat) (v : Value) (_ : World) : Prop :=
  match i with
  | 0 => v = .agg A
  | 1 => v = .pointer (some ⟨r, 1, none⟩)
  | 2 => v = .int .i64 (e : Int)
  | 3 => v = .bool (decide (e = 0))
  | 5 => v = .bool (decide (e = 0))
  | _ => True
def FfR (Q : Nat) (V : World) (A : Array Value) (D : Nat → Bool) (_ : Nat → Value) (w : World) : Prop := V.grownBy w (some Q) ∧ w.heap[Q]? = some (.cells (bif D 4 then A else zA) 30 (0, 0))
section
variable {Q : Nat} {V w : World} {A : Array Value} {D : Nat → Bool} {xs : Nat → Value}
theorem FfR.first (h : V.heap[Q]? = some (.cells zA 30 (0, 0))) : FfR Q V A (fun _ => false) xs V.drew := ⟨grownBy_drew V _, h⟩
theorem FfR.skip (h : FfR Q V A D xs w) (k : Nat) (hk : 4 ≠ k) (v : Value) : FfR Q V A (Ord.wth D k) (Ord.set xs k v) w :=
  ⟨h.1, by rw [show Ord.wth D k 4 = D 4 from if_neg hk]; exact h.2⟩
theorem FfR.cell (h : FfR Q V A D xs w) {b o : Nat} {u : Value} (hc : V.cell? ⟨b, o, none⟩ = some u) (hb : b ≠ Q) : w.cell? ⟨b, o, none⟩ = some u := h.1.cell hc (fun e => hb (Option.some.inj e))
theorem FfR.row (h : FfR Q V A D xs w) {b : Nat} {o : Obj} (hc : V.heap[b]? = some o) (hb : b ≠ Q) : w.heap[b]? = some o := by
  rw [h.1.block b (lt_of_block hc) (fun e => hb (Option.some.inj e))]; exact hc
theorem FfR.store (h : FfR Q V A D xs w) {w' : World} (hr : w'.heap[Q]? = some (.cells A 30 (0, 0))) (hg : w.grownBy w' (some Q)) (v : Value) : FfR Q V A (Ord.wth D 4) (Ord.set xs 4 v) w' :=
  ⟨grownBy_trans h.1 hg, by rw [show Ord.wth D 4 4 = true from if_pos rfl]; exact hr⟩
end
/-- A whole record is stored, as one operation. -/
theorem wp_store_rec {o : Oper} {a : Act} {w : World} {Q : Exit → Act → World → Prop} {K : Act → World → Prop} (x y : Operand) (ho : o.op = .store 30 x y) (g : Nat) (hx : a.eval x = .pointer (some ⟨g, 0, none⟩)) (A : Array Value) (hy : a.eval y = .agg A) (old : Array Value) (hg : w.heap[g]? = some (.cells old 30 (0, 0))) (hs : A.size = 15) (ho2 : old.size = 15) (h1 : A.all (·.oneCell') = true)
    (h : ∀ w', w'.heap[g]? = some (.cells A 30 (0, 0)) → w.grownBy w' (some g) → K (a.put o.dst undef) w') : o.wp Try.prog a w K Q := by
  refine wp_store_row 30 x y ho g _ hx hy _ _ hg (rec_info hs) (by rw [hs, ho2]) h1 (h _ (setRow_heap _ _ _ _ _ _ hg) ?_)
  exact ⟨rfl, rfl, rfl, by simp, fun i _ hi => setRow_other w g i _ (fun e => hi (by rw [e]))⟩
end Go.Proofs.Ytkchoelegdknoaa
