/- Parts of a proof. Conditions: as each row says. -/
import Derived.Test.YtbpodmallknhfaaGreatAr03
import Derived.Test.YtbpodmallknhfaaGreatAr01
import Derived.Test.YtbpodmallknhfaaGreatAr07
import Derived.Test.YtbpodmallknhfaaGreatAr08
import Derived.Test.YtbpodmallknhfaaGreatAr09
import Derived.Test.YtbpodmallknhfaaGreatAr11
import Derived.WideShapes
import Derived.BigQuiet
import Derived.Deep.QuietTactic
import Derived.StillTailTactics
import Derived.IntWalk
import Derived.Deep.SlicePairs
import Derived.Lib.SmallJoins
import Derived.ProofKit
import Derived.OpenShut
import Derived.Test.YtbpodmallknhfaaGreatRows
import Derived.WalkKit
import Derived.WalkSpells
import Derived.WalkLawsBesides
import Derived.Lib.Hide
import Derived.Deep.WholeRow
import Derived.Laws.AppendOwnNone
import Derived.Laws.MakeOwn
import Derived.Laws.OwnMore
import Derived.OneCell
import Derived.OwnWalk
import Derived.Below
import Derived.KernelRfl
namespace Go.Proofs.YtbpodmallknhfaaGreat.Pg
open Go.Proofs.YtbpodmallknhfaaGreat.Cod
theorem two32 : (2 : Nat) ^ 32 = 4294967296 := by decide
def zeros (n : Nat) : List Nat := List.replicate n 0
def rest (n : Nat) (l : List Nat) : List Nat := le 8 n ++ l
def form (n : Nat) (l : List Nat) : List Nat := le 4 (Crc.more 0 (rest n l)) ++ rest n l
def openE (b : List Nat) : Nat := if b.length ≠ 512 then 2 else if b = zeros 512 then 0 else if num (b.take 4) ≠ Crc.more 0 (b.drop 4) then 14 else 0
def openN (b : List Nat) : Nat := if openE b = 0 then num ((b.drop 4).take 8) else 0
def openL (b : List Nat) : List Nat := if openE b = 0 then b.drop 12 else []
theorem zeros_length (n : Nat) : (zeros n).length = n := List.length_replicate
theorem zeros_lt (n : Nat) : ∀ x ∈ zeros n, x < 256 := by
  intro x hx
  rw [List.eq_of_mem_replicate hx]
  decide
theorem rest_length (n : Nat) (l : List Nat) : (rest n l).length = 8 + l.length := by unfold rest; rw [List.length_append, le_length]
theorem form_length (n : Nat) (l : List Nat) : (form n l).length = 12 + l.length := by unfold form; rw [List.length_append, le_length, rest_length]; omega
theorem rest_lt {n : Nat} {l : List Nat} (h : ∀ x ∈ l, x < 256) : ∀ x ∈ rest n l, x < 256 := by
  intro x hx
  rcases List.mem_append.1 hx with hx | hx
  · exact le_lt _ _ x hx
  · exact h x hx
theorem form_lt {n : Nat} {l : List Nat} (h : ∀ x ∈ l, x < 256) : ∀ x ∈ form n l, x < 256 := by
  intro x hx
  rcases List.mem_append.1 hx with hx | hx
  · exact le_lt _ _ x hx
  · exact rest_lt h x hx
theorem sum_lt {l : List Nat} (h : ∀ x ∈ l, x < 256) : Crc.more 0 l < 4294967296 := by
  have := Crc.more_lt (s := 0) (by decide) h
  rwa [two32] at this
theorem form_take (n : Nat) (l : List Nat) : (form n l).take 4 = le 4 (Crc.more 0 (rest n l)) := List.take_left' (le_length _ _)
theorem form_drop (n : Nat) (l : List Nat) : (form n l).drop 4 = rest n l := List.drop_left' (le_length _ _)
theorem rest_take (n : Nat) (l : List Nat) : (rest n l).take 8 = le 8 n := List.take_left' (le_length _ _)
theorem rest_drop (n : Nat) (l : List Nat) : (rest n l).drop 8 = l := List.drop_left' (le_length _ _)
theorem drop_twelve (b : List Nat) : b.drop 12 = (b.drop 4).drop 8 := by rw [List.drop_drop]
theorem openE_form {n : Nat} {l : List Nat} (h : ∀ x ∈ l, x < 256) (hl : l.length = 500) : openE (form n l) = 0 := by
  unfold openE
  rw [if_neg (by rw [form_length, hl]; decide)]
  split
  · rfl
  · rw [form_take, form_drop, num_le, Nat.mod_eq_of_lt (sum_lt (rest_lt h)), if_neg (by simp)]
theorem openN_form {n : Nat} {l : List Nat} (h : ∀ x ∈ l, x < 256) (hl : l.length = 500) (hn : n < 18446744073709551616) : openN (form n l) = n := by
  unfold openN
  rw [if_pos (openE_form h hl), form_drop, rest_take, num_le, Nat.mod_eq_of_lt hn]
theorem openL_form {n : Nat} {l : List Nat} (h : ∀ x ∈ l, x < 256) (hl : l.length = 500) : openL (form n l) = l := by
  unfold openL
  rw [if_pos (openE_form h hl), drop_twelve, form_drop, rest_drop]
theorem openE_zeros : openE (zeros 512) = 0 := by unfold openE; rw [if_neg (by rw [zeros_length]; decide), if_pos rfl]
theorem openN_zeros : openN (zeros 512) = 0 := by unfold openN; rw [if_pos openE_zeros]; decide
theorem openL_zeros : openL (zeros 512) = zeros 500 := by unfold openL; rw [if_pos openE_zeros]; unfold zeros; rw [List.drop_replicate]
theorem openL_lt {b : List Nat} (h : ∀ x ∈ b, x < 256) : ∀ x ∈ openL b, x < 256 := by
  intro x hx
  unfold openL at hx
  split at hx
  · exact h x (List.mem_of_mem_drop hx)
  · simp at hx
theorem openL_length {b : List Nat} (he : openE b = 0) : (openL b).length = 500 := by
  have hl : b.length = 512 := by
    unfold openE at he
    split at he
    · cases he
    · omega
  unfold openL
  rw [if_pos he, List.length_drop, hl]
theorem openL_bad {b : List Nat} (he : openE b ≠ 0) : openL b = [] := if_neg he
theorem openN_bad {b : List Nat} (he : openE b ≠ 0) : openN b = 0 := if_neg he
def bodyB (n : Int) (i : Nat) : Nat := ((n + i * 7) % 256).toNat
def bodyL (n : Int) : List Nat := (List.range 500).map (bodyB n)
theorem bodyB_lt (n : Int) (i : Nat) : bodyB n i < 256 := by unfold bodyB; omega
theorem bodyL_length (n : Int) : (bodyL n).length = 500 := by simp [bodyL]
theorem bodyL_small (n : Int) : ∀ x ∈ bodyL n, x < 256 := by
  intro x hx
  obtain ⟨i, -, rfl⟩ := List.mem_map.1 hx
  exact bodyB_lt n i
end Go.Proofs.YtbpodmallknhfaaGreat.Pg
namespace Go.Proofs.YtbpodmallknhfaaGreat
open Go.RowKit
abbrev PgV (n : Nat) (v : Value) : Value := .agg #[.int .u64 (n : Int), v]
theorem str_inj {a b : List Nat} (ha : ∀ x ∈ a, x < 256) (hb : ∀ x ∈ b, x < 256) (h : strOfNums (a.map fun x : Nat => (x : Int)) = strOfNums (b.map fun x : Nat => (x : Int))) : a = b := by
  have h2 := congrArg (fun s : ByteArray => s.data.toList.map UInt8.toNat) h
  simp only [strOfNums_data, List.map_map] at h2
  have e : ∀ l : List Nat, (∀ x ∈ l, x < 256) → l.map (UInt8.toNat ∘ (fun n : Int => UInt8.ofNat n.toNat) ∘ fun x : Nat => (x : Int)) = l := by
    intro l hl
    rw [List.map_congr_left (g := id), List.map_id]
    intro x hx
    have := hl x hx
    simp
    omega
  rw [e a ha, e b hb] at h2
  exact h2
def bv (x : Nat) : Value := .int .u8 (x : Int)
theorem own_blk {base g : Nat} {w : World} {l : List Nat} (h : w.heap[g]? = some (.cells (l.map bv).toArray 5 (0, 0))) (hg : base ≤ g) (hs : ∀ x ∈ l, x < 256) (hl : l.length ≤ 140737488355328) : Own base w (.slice (some ⟨g, 0, none⟩) l.length l.length) l :=
  ⟨⟨by simp [bytesV], Or.inr ⟨g, l.length, (l.map bv).toArray, rfl, hg, h, Nat.le_refl _, by unfold maxLen; omega, by simp, by simp only [Nat.mul_one]; rw [List.take_of_length_le (by simp)]; rfl⟩⟩, hs, hl⟩
theorem made_one (z : Value) (n : Nat) : madeCells #[z] n = (List.replicate n z).toArray := by
  apply Array.ext'
  rw [toList_madeCells_one]
theorem made_bytes (n : Nat) (hn : n ≤ 65536) (W : World) : (Instr.makeSlice 57 (.int .i64 (n : Int)) (.int .i64 (n : Int))).run Tryz.prog W = .ok (.slice (some ⟨W.heap.size, 0, none⟩) n n) (W.alloc (.cells ((Pg.zeros n).map bv).toArray 5)) := by
  obtain ⟨i0, hi, hz0, hz1, hz2⟩ := info_parts info5
  have h := run_makeSlice (P := Tryz.prog) W 57 5 i0 _ Tryz.underlying57 hi hz0 .i64 .i64 n n (by omega) (Int.le_refl _) (by rw [hz1]; omega) (by rw [hz2]; omega) (by omega)
  rw [Int.toNat_natCast, hz1, Nat.mul_one] at h
  rw [h]
  have e : madeCells #[Value.int .u8 0] n = ((Pg.zeros n).map bv).toArray := by
    rw [show ((Pg.zeros n).map bv).toArray = (List.replicate n (Value.int .u8 0)).toArray by unfold Pg.zeros; rw [List.map_replicate]; rfl]
    exact made_one _ n
  congr 3
theorem made_own (n : Nat) (hn : n ≤ 65536) (W : World) : Own W.heap.size (W.alloc (.cells ((Pg.zeros n).map bv).toArray 5)) (.slice (some ⟨W.heap.size, 0, none⟩) n n) (Pg.zeros n) := by
  have h := own_blk (base := W.heap.size) (w := W.alloc (.cells ((Pg.zeros n).map bv).toArray 5)) (l := Pg.zeros n) (heap_alloc_last _ _) (Nat.le_refl _) (Pg.zeros_lt n) (by rw [Pg.zeros_length]; omega)
  rwa [Pg.zeros_length] at h
theorem set2 {w : World} {B : Nat} {a b x y : Value} {T : TypeId} (h : w.heap[B]? = some (.cells #[a, b] T (0, 0))) :
    ((w.setCell ⟨B, 0, none⟩ x).setCell ⟨B, 1, none⟩ y).heap[B]? = some (.cells #[x, y] T (0, 0)) ∧ w.grownBy ((w.setCell ⟨B, 0, none⟩ x).setCell ⟨B, 1, none⟩ y) (some B) :=
  ⟨setCell2_1 (setCell2_0 h), grownBy_trans (grownBy_setCell _ _ _ _) (grownBy_setCell _ _ _ _)⟩
set_option maxHeartbeats 400000 in
set_option maxRecDepth 20000 in
theorem refBlank_any (w : World) : Calls Tryz.prog 22 #[] w fun e w' => ∃ v, e = .returned (PgV 0 v) ∧ Own w.heap.size w' v (Pg.zeros 500) ∧ Below w.heap.size w w' := by
  obtain ⟨W, hW⟩ : ∃ W, W = w.alloc (.cells #[.int .u64 0, .slice none 0 0] 59) := ⟨_, rfl⟩
  have hmk : (Instr.makeSlice 57 (.int .i64 500) (.int .i64 500)).run Tryz.prog (w.alloc (.cells #[.int .u64 0, .slice none 0 0] 59)) = .ok (.slice (some ⟨(w.alloc (.cells #[.int .u64 0, .slice none 0 0] 59)).heap.size, 0, none⟩) 500 500) _ := made_bytes 500 (by decide) _
  have HO := Lib.hid (made_own 500 (by decide) W)
  have hr : W.heap[w.heap.size]? = some (.cells #[.int .u64 0, .slice none 0 0] 59 (0, 0)) := by rw [hW]; exact heap_alloc_last _ _
  have hb : Below w.heap.size w W := by rw [hW]; exact (Below.refl _ _).alloc (Nat.le_refl _) _
  have hsz := lt_of_block hr
  rw [← hW] at hmk
  obtain ⟨W1, hW1⟩ : ∃ W1, W1 = W.alloc (.cells ((Pg.zeros 500).map bv).toArray 5) := ⟨_, rfl⟩
  have hb1 : Below W.heap.size W W1 := by rw [hW1]; exact (Below.refl _ _).alloc (Nat.le_refl _) _
  have hr1 : W1.heap[w.heap.size]? = some (.cells #[.int .u64 0, .slice none 0 0] 59 (0, 0)) := by rw [hb1.block _ (lt_of_block hr)]; exact hr
  rw [← hW1] at hmk HO
  obtain ⟨h2, hg2⟩ := set2 (x := .int .u64 0) (y := .slice (some ⟨W.heap.size, 0, none⟩) 500 500) hr1
  have q0 := cell2_0 h2
  have q1 := cell2_1 h2
  have HG := Lib.hid hg2
  have HQ0 := Lib.hid q0
  have HQ1 := Lib.hid q1
  clear h2 hg2 q0 q1
  go_enter Tryz.func22, Tryz.ntmps22
  go_wp2_with fail
  rw [← hW, hmk]
  have c0 := cell2_0 hr1
  have c1 := cell2_1 hr1
  have f0 := free2 hr1 0
  have f1 := free2 hr1 1
  clear hW1 hmk hr hr1 hW
  go_wp2_with fail
  have q0 := HQ0.out
  have q1 := HQ1.out
  refine bodyPost_ret (v := PgV 0 (.slice (some ⟨W.heap.size, 0, none⟩) 500 500)) (by simp [results, Tryz.results22, go_sem, q0, q1]) rfl ⟨_, rfl, ?_, ?_⟩
  · exact (HO.out.from (Nat.le_of_lt hsz)).grown HG.out (Or.inr (by simp [Value.ownBlock]; omega))
  · exact below_grown (hb.trans (hb1.mono hb.size)) HG.out (by have := hb1.size; omega) (Nat.le_refl _)
end Go.Proofs.YtbpodmallknhfaaGreat
namespace Go.Proofs.YtbpodmallknhfaaGreat
open Go.RowKit
theorem Pg.set_mid {α : Type} (A l : List α) (k : Nat) (x : α) (hA : k < A.length) (hl : k < l.length) (hx : A[k]? = some x) : (A.take k ++ l.drop k).set k x = A.take (k + 1) ++ l.drop (k + 1) := by
  rw [List.set_append_right _ _ (by simp; omega), show k - (A.take k).length = 0 by simp; omega]
  rw [List.drop_eq_getElem_cons hl, List.set_cons_zero, List.take_succ_eq_append_getElem hA]
  rw [List.getElem?_eq_getElem hA] at hx
  simp only [Option.some.injEq] at hx
  rw [hx, List.append_assoc, List.singleton_append]
def Pg.lies (s base n : Int) : Bool := decide (0 ≤ base ∧ 0 ≤ n ∧ base ≤ s ∧ n < (s - base).tdiv 4)
theorem lies_false {s base n : Int} (h : ¬ (0 ≤ base ∧ 0 ≤ n ∧ base ≤ s ∧ n < (s - base).tdiv 4)) : Pg.lies s base n = false := decide_eq_false h
end Go.Proofs.YtbpodmallknhfaaGreat
namespace Go.Proofs.YtbpodmallknhfaaGreat
namespace Po
abbrev Pg := Nat × List Nat
def blank : Pg := (0, Pg.zeros 500)
structure Ar where
  spare : Int
  base : Int
  pages : Int
def Ar.Fits (n : Nat) (a : Ar) : Prop := 1 ≤ a.pages ∧ 0 ≤ a.spare ∧ 0 ≤ a.base ∧ a.spare + 5 ≤ n ∧ a.base + 4 * a.pages ≤ n ∧ (a.spare + 5 ≤ a.base ∨ a.base + 4 * a.pages ≤ a.spare)
def Ar.Has (a : Ar) (i : Nat) : Prop := (a.spare ≤ (i : Int) ∧ (i : Int) < a.spare + 5) ∨ (a.base ≤ (i : Int) ∧ (i : Int) < a.base + 4 * a.pages)
def Away (a : Ar) (at_ count : Nat) : Prop := ∀ i, a.Has i → i < at_ ∨ at_ + count + 2 ≤ i
def Oth (at_ count : Nat) (d d' : Dk.Dev) : Prop := ∀ i, (i < at_ ∨ at_ + count + 2 ≤ i) → d.waits.getD i none = none → d'.waits.getD i none = none ∧ d'.lasts.getD i [] = d.lasts.getD i []
theorem Oth.refl (a c : Nat) (d : Dk.Dev) : Oth a c d d := fun _ _ h => ⟨h, rfl⟩
structure S where
  now : Nat → Pg
  disk : Nat → Pg
  first : Nat → Option Nat
  pins : Nat → Nat
  held : List Nat
  frames : Nat
  ar : Ar
def fresh (f : Nat → Pg) (fr : Nat) (a : Ar) : S := ⟨f, f, fun _ => none, fun _ => 0, [], fr, a⟩
def PgOk (x : Pg) : Prop := x.1 < 18446744073709551616 ∧ x.2.length = 500 ∧ ∀ b ∈ x.2, b < 256
structure Good (s : S) : Prop where
  sorted : s.held.Pairwise (· < ·)
  few : s.held.length ≤ s.frames
  inn : ∀ k ∈ s.held, (k : Int) < s.ar.pages
  pinned : ∀ k, 0 < s.pins k → k ∈ s.held
  dirty : ∀ k, s.first k ≠ none → k ∈ s.held
  clean : ∀ k, s.first k = none → s.disk k = s.now k
  ok : ∀ k, PgOk (s.now k)
  okd : ∀ k, PgOk (s.disk k)
def Full (s : S) : Prop := s.held.length = s.frames ∧ ∀ k ∈ s.held, 0 < s.pins k
def Free (s : S) (k : Nat) : Prop := k ∈ s.held ∨ ¬ Full s
def Rule (lg : Wl.S) (s : S) : Prop := ∀ k, (s.disk k).1 < lg.flushed ∧ (s.now k).1 < lg.stop
def upd {α : Type} (f : Nat → α) (n : Nat) (x : α) (k : Nat) : α := if k = n then x else f k
theorem upd_self {α : Type} (f : Nat → α) (n : Nat) (x : α) : upd f n x n = x := if_pos rfl
theorem upd_ne {α : Type} (f : Nat → α) {n k : Nat} (x : α) (h : k ≠ n) : upd f n x k = f k := if_neg h
structure Moved (s s' : S) : Prop where
  now : s'.now = s.now
  pins : s'.pins = s.pins
  frames : s'.frames = s.frames
  ar : s'.ar = s.ar
  first : ∀ k, k ∈ s'.held → s'.first k = s.first k
  disk : ∀ k, s'.disk k = s.disk k ∨ s'.disk k = s.now k
structure PutTo (s : S) (n : Nat) (x : Pg) (s' : S) : Prop where
  now : s'.now = upd s.now n x
  pins : s'.pins = s.pins
  frames : s'.frames = s.frames
  ar : s'.ar = s.ar
  own : n ∈ s'.held ∧ s'.first n = some ((s.first n).getD x.1)
  first : ∀ k, k ≠ n → k ∈ s'.held → s'.first k = s.first k
  disk : ∀ k, s'.disk k = s.disk k ∨ s'.disk k = s.now k
structure Pinned (s : S) (n : Nat) (s' : S) : Prop where
  now : s'.now = s.now
  pins : s'.pins = upd s.pins n (s.pins n + 1)
  frames : s'.frames = s.frames
  ar : s'.ar = s.ar
  first : ∀ k, k ∈ s'.held → s'.first k = s.first k
  disk : ∀ k, s'.disk k = s.disk k ∨ s'.disk k = s.now k
def Lf (lg lg' : Wl.S) : Prop := lg' = lg ∨ lg' = Wl.flush lg
theorem not_full {s : S} {k : Nat} (h1 : k ∈ s.held) (h2 : s.pins k = 0) : ¬ Full s := fun h => by have := h.2 k h1; omega
theorem not_full_none {s : S} (h : ∀ k, s.pins k = 0) (hf : 1 ≤ s.frames) : ¬ Full s := fun hh => by
  cases e : s.held with
  | nil => have := hh.1; rw [e, List.length_nil] at this; omega
  | cons k l =>
    have := hh.2 k (by rw [e]; exact List.mem_cons_self ..)
    rw [h k] at this
    omega
theorem Good.first_of {s : S} (h : Good s) {k : Nat} (hk : k ∉ s.held) : s.first k = none := by
  cases e : s.first k with
  | none => rfl
  | some f => exact absurd (h.dirty k (by rw [e]; intro c; cases c)) hk
theorem good_fresh {f : Nat → Pg} {fr : Nat} {a : Ar} (h : ∀ k, PgOk (f k)) : Good (fresh f fr a) :=
  ⟨List.Pairwise.nil, Nat.zero_le _, (fun k hk => by cases hk), (fun k hk => absurd hk (Nat.lt_irrefl 0)), (fun k hk => absurd rfl hk), (fun _ _ => rfl), h, h⟩
theorem Lf.stop {lg lg' : Wl.S} (h : Lf lg lg') : lg'.stop = lg.stop := by rcases h with rfl | rfl <;> rfl
theorem Lf.at_ {lg lg' : Wl.S} (h : Lf lg lg') : lg'.at_ = lg.at_ := by rcases h with rfl | rfl <;> rfl
theorem Lf.count {lg lg' : Wl.S} (h : Lf lg lg') : lg'.count = lg.count := by rcases h with rfl | rfl <;> rfl
theorem Lf.start {lg lg' : Wl.S} (h : Lf lg lg') : lg'.start = lg.start := by rcases h with rfl | rfl <;> rfl
end Po
end Go.Proofs.YtbpodmallknhfaaGreat
namespace Go.Proofs.YtbpodmallknhfaaGreat
open Go.RowKit
def Three (U V X : Nat → Prop) (i : Nat) : Prop := U i ∨ V i ∨ X i
def ArV (a : Po.Ar) : Value := .agg #[.int .i64 a.spare, .int .i64 a.base, .int .i64 a.pages]
def ArOk (a : Po.Ar) : Prop := I64' a.spare ∧ I64' a.base ∧ I64' a.pages
section
variable (PL : (Nat → Prop) → (Nat → Prop) → World → Nat → Nat → Dk.Dev → Wl.S → Prop) (PO : (Nat → Prop) → World → Nat → Nat → Nat → Po.S → Prop) (Hw : Dk.Dev → Po.Ar → (Nat → Po.Pg) → Prop)
structure PoIn (U V X : Nat → Prop) (w : World) (B L P : Nat) (d : Dk.Dev) (lg : Wl.S) (s : Po.S) : Prop where
  log : PL U V w B L d lg
  own : PO X w B L P s
  area : Hw d s.ar s.disk
  off : ∀ i, Both U V i → ¬ X i
  rule : Po.Rule lg s
  away : Po.Away s.ar lg.at_ lg.count
def PoWent (U V X : Nat → Prop) (w : World) (B L P : Nat) (w' : World) (d' : Dk.Dev) (lg' : Wl.S) (s' : Po.S) : Prop :=
  ∃ U' V' X', PoIn PL PO Hw U' V' X' w' B L P d' lg' s' ∧ Touch (Three U V X) w w' ∧ Grew U U' w ∧ Grew V V' w ∧ Grew X X' w
def PoGave (U V X : Nat → Prop) (w : World) (B L P : Nat) (w' : World) (d' : Dk.Dev) (lg' : Wl.S) (s' : Po.S) (u : Value) : Prop :=
  ∃ U' V' X', PoIn PL PO Hw U' V' X' w' B L P d' lg' s' ∧ Touch (Three U V X) w w' ∧ Grew U U' w ∧ Grew V V' w ∧ Grew X X' w ∧ ∀ b, u.ownBlock = some b → ¬ Three U' V' X' b
theorem PoGave.went {U V X : Nat → Prop} {w : World} {B L P : Nat} {w' : World} {d' : Dk.Dev} {lg' : Wl.S} {s' : Po.S} {u : Value} (h : PoGave PL PO Hw U V X w B L P w' d' lg' s' u) : PoWent PL PO Hw U V X w B L P w' d' lg' s' := by
  obtain ⟨U', V', X', h1, h2, h3, h4, h5, -⟩ := h
  exact ⟨U', V', X', h1, h2, h3, h4, h5⟩
end
structure PoApi (PD : (Nat → Prop) → World → Nat → Dk.Dev → Prop) (PL : (Nat → Prop) → (Nat → Prop) → World → Nat → Nat → Dk.Dev → Wl.S → Prop) (PO : (Nat → Prop) → World → Nat → Nat → Nat → Po.S → Prop)
    (Hd : Dk.Dev → Wl.S → Prop) (Hw : Dk.Dev → Po.Ar → (Nat → Po.Pg) → Prop) (Hp : Dk.Dev → Po.Ar → (Nat → Po.Pg → Prop) → Prop) : Prop where
  dok : ∀ {U w B d}, PD U w B d → Dk.Ok d
  pkeep : ∀ {U V T w w' B L d s}, PL U V w B L d s → Touch T w w' → (∀ i, Both U V i → ¬ T i) → PL U V w' B L d s
  plt : ∀ {U V w B L d s}, PL U V w B L d s → ∀ i, Both U V i → i < w.heap.size
  dev : ∀ {U V w B L d s}, PL U V w B L d s → PD U w B d
  okeep : ∀ {X T w w' B L P s}, PO X w B L P s → Touch T w w' → (∀ i, X i → ¬ T i) → PO X w' B L P s
  olt : ∀ {X w B L P s}, PO X w B L P s → ∀ i, X i → i < w.heap.size
  ogood : ∀ {X w B L P s}, PO X w B L P s → Po.Good s
  hw_blank : ∀ {d a n}, Dk.Ok d → Dk.size d = n → Po.Ar.Fits n a → (∀ i, a.Has i → d.waits.getD i none = none ∧ d.lasts.getD i [] = Dk.blank) → Hw d a fun _ => Po.blank
  new : ∀ (n : Nat) w, 1 ≤ n → n ≤ 65536 → Calls Tryz.prog 15 #[.int .i64 n, .int .i64 n] w fun e w' =>
    ∃ B U, e = .returned (.tuple #[.pointer (some ⟨B, 0, none⟩), .int .i64 0]) ∧ PD U w' B (Dk.fresh n n) ∧ (∀ i, U i → w.heap.size ≤ i) ∧ Below w.heap.size w w'
  make : ∀ {U w B n} (a c : Nat), PD U w B (Dk.fresh n n) → Wl.Fits n a c → Calls Tryz.prog 16 #[.pointer (some ⟨B, 0, none⟩), .int .i64 a, .int .i64 c] w fun e w' =>
    ∃ L U' V' d', e = .returned (.tuple #[.pointer (some ⟨L, 0, none⟩), .int .i64 0]) ∧ PL U' V' w' B L d' (Wl.fresh a c) ∧ Wl.Calm n d' ∧ Po.Oth a c (Dk.fresh n n) d' ∧ Touch U w w' ∧ Grew U U' w ∧ (∀ i, V' i → w.heap.size ≤ i)
  mend : ∀ {U V w B L d n lg a f}, PL U V w B L d lg → Wl.Calm n d → a.Fits n → ArOk a → Po.Away a lg.at_ lg.count → Hw d a f → Calls Tryz.prog 19 #[.pointer (some ⟨B, 0, none⟩), ArV a] w fun e w' =>
    e = .returned (.int .i64 0) ∧ ∃ U' d', PL U' V w' B L d' lg ∧ Wl.Calm n d' ∧ Hw d' a f ∧ Touch U w w' ∧ Grew U U' w
  mend_bad : ∀ {U w B d n} {a : Po.Ar}, PD U w B d → Wl.Calm n d → ArOk a → ¬ a.Fits n → Calls Tryz.prog 19 #[.pointer (some ⟨B, 0, none⟩), ArV a] w fun e w' => e = .returned (.int .i64 2) ∧ Below w.heap.size w w'
  mend_nil : ∀ {a : Po.Ar} w, ArOk a → Calls Tryz.prog 19 #[.pointer none, ArV a] w fun e w' => e = .returned (.int .i64 1) ∧ Below w.heap.size w w'
  make_pool : ∀ {U V w B L d n lg a f} (fr : Nat), PL U V w B L d lg → Wl.Calm n d → a.Fits n → ArOk a → Hw d a f → (∀ k, Po.PgOk (f k)) → 1 ≤ fr → fr ≤ 64 → Calls Tryz.prog 18 #[.pointer (some ⟨B, 0, none⟩), .pointer (some ⟨L, 0, none⟩), ArV a, .int .i64 (fr : Int)] w fun e w' =>
    ∃ P X, e = .returned (.tuple #[.pointer (some ⟨P, 0, none⟩), .int .i64 0]) ∧ PO X w' B L P (Po.fresh f fr a) ∧ (∀ i, X i → w.heap.size ≤ i) ∧ Below w.heap.size w w'
  make_bad : ∀ {U V w B L d n lg} {a : Po.Ar} (fr : Int), PL U V w B L d lg → Wl.Calm n d → ArOk a → I64' fr → ¬ (a.Fits n ∧ 1 ≤ fr ∧ fr ≤ 64) → Calls Tryz.prog 18 #[.pointer (some ⟨B, 0, none⟩), .pointer (some ⟨L, 0, none⟩), ArV a, .int .i64 fr] w fun e w' => e = .returned (.tuple #[.pointer none, .int .i64 2]) ∧ Below w.heap.size w w'
  make_nolog : ∀ {U V w B L d n lg} {a : Po.Ar} (fr : Int), PL U V w B L d lg → Wl.Calm n d → ArOk a → I64' fr → Calls Tryz.prog 18 #[.pointer (some ⟨B, 0, none⟩), .pointer none, ArV a, .int .i64 fr] w fun e w' => e = .returned (.tuple #[.pointer none, .int .i64 1]) ∧ Below w.heap.size w w'
  make_nodev : ∀ {U V w B L d n lg} {a : Po.Ar} (fr : Int), PL U V w B L d lg → Wl.Calm n d → ArOk a → I64' fr → Calls Tryz.prog 18 #[.pointer none, .pointer (some ⟨L, 0, none⟩), ArV a, .int .i64 fr] w fun e w' => e = .returned (.tuple #[.pointer none, .int .i64 1]) ∧ Below w.heap.size w w'
  get : ∀ {U V X w B L P d n lg s} (m : Nat), PoIn PL PO Hw U V X w B L P d lg s → Wl.Calm n d → lg.stop ≤ 1000000000000 → (m : Int) < s.ar.pages → Po.Free s m → Calls Tryz.prog 20 #[.pointer (some ⟨P, 0, none⟩), .int .i64 (m : Int)] w fun e w' =>
    ∃ u d' lg' s', e = .returned (.tuple #[PgV (s.now m).1 u, .int .i64 0]) ∧ Own w.heap.size w' u (s.now m).2 ∧ PoGave PL PO Hw U V X w B L P w' d' lg' s' u ∧ Wl.Calm n d' ∧ Po.Lf lg lg' ∧ Po.Moved s s' ∧ m ∈ s'.held ∧ ((∀ k, s.first k = none) → d' = d ∧ lg' = lg)
  put : ∀ {U V X w B L P d n lg s} (m : Nat) (x : Po.Pg) (u : Value), PoIn PL PO Hw U V X w B L P d lg s → Wl.Near n d → lg.stop ≤ 1000000000000 → (m : Int) < s.ar.pages → Po.Free s m → Po.PgOk x → Bts w u x.2 → x.1 < lg.stop → Calls Tryz.prog 21 #[.pointer (some ⟨P, 0, none⟩), .int .i64 (m : Int), PgV x.1 u] w fun e w' =>
    (∃ d' lg' s', e = .returned (.int .i64 0) ∧ PoWent PL PO Hw U V X w B L P w' d' lg' s' ∧ Wl.Near n d' ∧ (Wl.Calm n d → Wl.Calm n d') ∧ Po.Lf lg lg' ∧ Po.PutTo s m x s') ∨
    (¬ Wl.Calm n d ∧ e = .returned (.int .i64 6) ∧ ∃ U' d' lg' c, PD U' w' B d' ∧ Wl.Near n d' ∧ Touch (Three U V X) w w' ∧ Grew U U' w ∧ Po.Lf lg lg' ∧ (∀ k x, c k x → (x = s.disk k ∨ x = s.now k) ∧ x.1 < lg'.flushed) ∧ ∀ ps, Hd (Dk.crash d' ps) lg' ∧ Hp (Dk.crash d' ps) s.ar c)
  pin : ∀ {U V X w B L P d n lg s} (m : Nat), PoIn PL PO Hw U V X w B L P d lg s → Wl.Calm n d → lg.stop ≤ 1000000000000 → (m : Int) < s.ar.pages → Po.Free s m → s.pins m ≤ 1000000 → Calls Tryz.prog 23 #[.pointer (some ⟨P, 0, none⟩), .int .i64 (m : Int)] w fun e w' =>
    e = .returned (.int .i64 0) ∧ ∃ d' lg' s', PoWent PL PO Hw U V X w B L P w' d' lg' s' ∧ Wl.Calm n d' ∧ Po.Lf lg lg' ∧ Po.Pinned s m s'
  pins : ∀ {U V X w B L P d n lg s} (m : Nat), PoIn PL PO Hw U V X w B L P d lg s → Wl.Calm n d → (m : Int) < s.ar.pages → s.pins m ≤ 1000000 → Calls Tryz.prog 12 #[.pointer (some ⟨P, 0, none⟩), .int .i64 (m : Int)] w fun e w' => e = .returned (.int .i64 (s.pins m : Int)) ∧ ∃ q, w' = w.drewN q
  get_nil : ∀ (m : Int) w, I64' m → Calls Tryz.prog 20 #[.pointer none, .int .i64 m] w fun e w' => e = .returned (.tuple #[PgV 0 (.slice none 0 0), .int .i64 1]) ∧ Below w.heap.size w w'
  put_nil : ∀ (m : Int) (k : Nat) (l : List Nat) (u : Value) w, I64' m → k < 18446744073709551616 → Bts w u l → Calls Tryz.prog 21 #[.pointer none, .int .i64 m, PgV k u] w fun e w' => e = .returned (.int .i64 1) ∧ Below w.heap.size w w'
  pin_nil : ∀ (m : Int) w, I64' m → Calls Tryz.prog 23 #[.pointer none, .int .i64 m] w fun e w' => e = .returned (.int .i64 1) ∧ Below w.heap.size w w'
  unpin_nil : ∀ (m : Int) w, I64' m → Calls Tryz.prog 24 #[.pointer none, .int .i64 m] w fun e w' => e = .returned (.int .i64 1) ∧ Below w.heap.size w w'
  flush_nil : ∀ (m : Int) w, I64' m → Calls Tryz.prog 25 #[.pointer none, .int .i64 m] w fun e w' => e = .returned (.int .i64 1) ∧ Below w.heap.size w w'
  flushall_nil : ∀ w, Calls Tryz.prog 26 #[.pointer none] w fun e w' => e = .returned (.int .i64 1) ∧ Below w.heap.size w w'
  dirty_nil : ∀ w, Calls Tryz.prog 27 #[.pointer none] w fun e w' => e = .returned (.slice none 0 0) ∧ Below w.heap.size w w'
  held_nil : ∀ w, Calls Tryz.prog 11 #[.pointer none] w fun e w' => e = .returned (.slice none 0 0) ∧ Below w.heap.size w w'
  pins_nil : ∀ (m : Int) w, I64' m → Calls Tryz.prog 12 #[.pointer none, .int .i64 m] w fun e w' => e = .returned (.int .i64 0) ∧ Below w.heap.size w w'
end Go.Proofs.YtbpodmallknhfaaGreat
namespace Go.Proofs.YtbpodmallknhfaaGreat
open Go.ChangeShapes Go.WideShapes Go.ChangeAt Go.RowKit Go.Deep Go.Joins
abbrev ArI := Int64 × Int64 × Int64
def arOf (x : ArI) : Po.Ar := ⟨x.1.toInt, x.2.1.toInt, x.2.2.toInt⟩
theorem arOf_ok (x : ArI) : ArOk (arOf x) := by
  have h : ∀ k : Int64, I64' k.toInt := fun k => by
    have a := k.le_toInt
    have b := k.toInt_lt
    rw [show (2 : Int) ^ 63 = 9223372036854775808 by decide] at a b
    exact ⟨a, by omega⟩
  exact ⟨h _, h _, h _⟩
theorem ar_s64 {n : Int} (h : (Lit.int .i64 n).wf = true) : ∃ k : Int64, n = k.toInt := by
  have h1 : IntKind.i64.min = -9223372036854775808 := rfl
  have h2 : IntKind.i64.max = 9223372036854775807 := rfl
  simp only [Lit.wf, Bool.and_eq_true, decide_eq_true_eq] at h
  refine ⟨Int64.ofInt n, (Int64.toInt_ofInt_of_le ?_ ?_).symm⟩
  · rw [show (2 : Int) ^ 63 = 9223372036854775808 by decide]; omega
  · rw [show (2 : Int) ^ 63 = 9223372036854775808 by decide]; omega
theorem ar_i64_of {n : Int} (h : (Lit.int .i64 n).wf = true) : I64' n := by
  have h1 : IntKind.i64.min = -9223372036854775808 := rfl
  have h2 : IntKind.i64.max = 9223372036854775807 := rfl
  simp only [Lit.wf, Bool.and_eq_true, decide_eq_true_eq] at h
  unfold I64'
  omega
theorem ar_wf (k : Int64) : (Lit.int .i64 k.toInt).wf = true := by
  have h1 : IntKind.i64.min = -9223372036854775808 := rfl
  have h2 : IntKind.i64.max = 9223372036854775807 := rfl
  have a := k.le_toInt
  have b := k.toInt_lt
  rw [show (2 : Int) ^ 63 = 9223372036854775808 by decide] at a b
  simp only [Lit.wf, Bool.and_eq_true, decide_eq_true_eq]
  omega
set_option maxRecDepth 20000 in
theorem open_area {H : Type} {enc : TypeId × Value → H} {W : World} {base b0 : Nat} {spare : Nat → Bool} {held : Bool} {r : Reach} {v : Value} {d : DataW H} {ps : List MemPlace}
    (hv : Value.okWide Tryz.prog W r b0 46 v) (h : DataW.Trod enc Tryz.prog W base spare held 46 v d ps) :
    ∃ x : ArI, v = ArV (arOf x) ∧ d = .agg [.lit (.int .i64 x.1.toInt), .lit (.int .i64 x.2.1.toInt), .lit (.int .i64 x.2.2.toInt)] ∧ ps = [] := by
  obtain ⟨c0, c1, c2, y0, y1, y2, m, rfl, rfl, rfl, hy0, hy1, hy2⟩ := open_agg3 Tryz.underlying46 (by kernel_rfl) (by kernel_rfl) hv h
  obtain ⟨a, e0, rfl, wa⟩ := DataW.trod_int (k := .i64) Tryz.underlying3 hy0
  obtain ⟨b, e1, rfl, wb⟩ := DataW.trod_int (k := .i64) Tryz.underlying3 hy1
  obtain ⟨c, e2, rfl, wc⟩ := DataW.trod_int (k := .i64) Tryz.underlying3 hy2
  simp at e0 e1 e2
  subst e0 e1 e2
  obtain ⟨k0, rfl⟩ := ar_s64 wa
  obtain ⟨k1, rfl⟩ := ar_s64 wb
  obtain ⟨k2, rfl⟩ := ar_s64 wc
  exact ⟨(k0, k1, k2), rfl, rfl, rfl⟩
set_option maxRecDepth 20000 in
theorem shut_area {H : Type} {enc : TypeId × Value → H} {W : World} {base : Nat} {spare : Nat → Bool} {held : Bool} (x : ArI) :
    DataW.Trod enc Tryz.prog W base spare held 46 (ArV (arOf x)) (.agg [.lit (.int .i64 x.1.toInt), .lit (.int .i64 x.2.1.toInt), .lit (.int .i64 x.2.2.toInt)]) [] :=
  shut_agg3 (y0 := (.lit (.int .i64 x.1.toInt), [])) (y1 := (.lit (.int .i64 x.2.1.toInt), [])) (y2 := (.lit (.int .i64 x.2.2.toInt), [])) Tryz.underlying46 (by kernel_rfl) (by kernel_rfl)
    ⟨1, by simp [DataW.trod, Tryz.underlying3, ar_wf, arOf]⟩ ⟨1, by simp [DataW.trod, Tryz.underlying3, ar_wf, arOf]⟩ ⟨1, by simp [DataW.trod, Tryz.underlying3, ar_wf, arOf]⟩
end Go.Proofs.YtbpodmallknhfaaGreat
namespace Go.Proofs.YtbpodmallknhfaaGreat
open Go.RowKit
namespace Po
def area : Ar := ⟨34, 40, 16⟩
theorem area_fits : area.Fits 120 := ⟨by decide, by decide, by decide, by decide, by decide, Or.inl (by decide)⟩
theorem area_ok : ArOk area := ⟨⟨by decide, by decide⟩, ⟨by decide, by decide⟩, ⟨by decide, by decide⟩⟩
theorem area_away : Away area 0 30 := fun i hi => by
  rcases hi with ⟨h1, -⟩ | ⟨h1, -⟩
  · have h1 : (34 : Int) ≤ (i : Int) := h1
    omega
  · have h1 : (40 : Int) ≤ (i : Int) := h1
    omega
def bodyR (n : Int) (i : Nat) : Nat := ((n * 31 + i) % 256).toNat
def rawL (n : Int) : List Nat := (List.range 500).map (bodyR n)
def bodyL (n : Int) : List Nat := ((rawL n).set 0 (n % 256).toNat).set 1 ((n / 256) % 256).toNat
theorem rawL_length (n : Int) : (rawL n).length = 500 := by simp [rawL]
theorem bodyL_length (n : Int) : (bodyL n).length = 500 := by simp [bodyL, rawL]
theorem rawL_small (n : Int) : ∀ x ∈ rawL n, x < 256 := by
  intro x hx
  simp only [rawL, List.mem_map] at hx
  obtain ⟨i, -, rfl⟩ := hx
  unfold bodyR; omega
theorem bodyL_small (n : Int) : ∀ x ∈ bodyL n, x < 256 := by
  intro x hx
  rcases List.mem_or_eq_of_mem_set hx with hx | rfl
  · rcases List.mem_or_eq_of_mem_set hx with hx | rfl
    · exact rawL_small n x hx
    · omega
  · omega
theorem bodyL_ok (n : Int) {k : Nat} (hk : k < 18446744073709551616) : PgOk (k, bodyL n) := by
  unfold PgOk
  dsimp only
  exact ⟨hk, bodyL_length n, bodyL_small n⟩
theorem blank_ok : PgOk blank := by
  unfold PgOk blank
  dsimp only
  exact ⟨by decide, Pg.zeros_length 500, Pg.zeros_lt 500⟩
end Po
set_option maxHeartbeats 800000 in
set_option maxRecDepth 20000 in
theorem area_any (w : World) : Calls Tryz.prog 32 #[] w fun e w' => e = .returned (ArV Po.area) ∧ Below w.heap.size w w' := by
  obtain ⟨W, hW⟩ : ∃ W, W = w.alloc (.cells #[.int .i64 0, .int .i64 0, .int .i64 0] 46) := ⟨_, rfl⟩
  have hr : W.heap[w.heap.size]? = some (.cells #[.int .i64 0, .int .i64 0, .int .i64 0] 46 (0, 0)) := by rw [hW]; exact heap_alloc_last _ _
  have hb : Below w.heap.size w W := by rw [hW]; exact below_new1 _ _
  obtain ⟨B, hB⟩ : ∃ B, B = w.heap.size := ⟨_, rfl⟩
  rw [← hB] at hr
  obtain ⟨h2, hg2⟩ := set3 (x := .int .i64 34) (y := .int .i64 40) (z := .int .i64 16) hr
  have q0 := cell3_0 h2
  have q1 := cell3_1 h2
  have q2 := cell3_2 h2
  have HG := Lib.hid hg2
  have HB := Lib.hid hb
  have HBE := Lib.hid hB
  have HQ : Hid (_ ∧ _ ∧ _) := ⟨q0, q1, q2⟩
  clear h2 hg2 q0 q1 q2 hb
  go_enter Tryz.func32, Tryz.ntmps32
  go_upto_region 1 with (fail)
  rw [← hW, ← hB]
  have c0 := cell3_0 hr
  have c1 := cell3_1 hr
  have c2 := cell3_2 hr
  have f0 := free3 hr 0
  have f1 := free3 hr 1
  have f2 := free3 hr 2
  clear hr hW hB
  go_wp2_with fail
  obtain ⟨q0, q1, q2⟩ := HQ.out
  refine bodyPost_ret (v := ArV Po.area) (by simp [results, Tryz.results32, go_sem, q0, q1, q2, ArV, Po.area]) rfl ⟨rfl, ?_⟩
  exact below_grown HB.out HG.out HB.out.size (Nat.le_of_eq HBE.out.symm)
theorem wrap_body (n : Int) (k : Nat) : (wrap64 (wrap64 (n * 31) + (k : Int))) % 256 = (Po.bodyR n k : Int) := by
  unfold Po.bodyR wrap64
  omega
set_option maxHeartbeats 1600000 in
set_option maxRecDepth 20000 in
theorem body11_any (n : Int) (w : World) : Calls Tryz.prog 30 #[.int .i64 n] w fun e w' => ∃ g, e = .returned (.slice (some ⟨g, 0, none⟩) 500 500) ∧ w.heap.size ≤ g ∧ Own w.heap.size w' (.slice (some ⟨g, 0, none⟩) 500 500) (Po.bodyL n) ∧ Below w.heap.size w w' := by
  have hmk : (Instr.makeSlice 57 (.int .i64 500) (.int .i64 500)).run Tryz.prog w = .ok (.slice (some ⟨w.heap.size, 0, none⟩) 500 500) (w.alloc (.cells ((Pg.zeros 500).map bv).toArray 5)) := made_bytes 500 (by decide) w
  obtain ⟨W, hW⟩ : ∃ W, W = w.alloc (.cells ((Pg.zeros 500).map bv).toArray 5) := ⟨_, rfl⟩
  have hb0 : Below w.heap.size w W := by rw [hW]; exact (Below.refl _ _).alloc (Nat.le_refl _) _
  have hr0 : W.heap[w.heap.size]? = some (.cells ((Pg.zeros 500).map bv).toArray 5 (0, 0)) := by rw [hW]; exact heap_alloc_last _ _
  rw [← hW] at hmk
  have HR := Lib.hid hr0
  have HB := Lib.hid hb0
  obtain ⟨g, hg⟩ : ∃ g, w.heap.size = g := ⟨_, rfl⟩
  rw [hg] at hmk HR
  have HG := Lib.hid hg
  clear hW hb0 hr0 hg
  go_enter Tryz.func30, Tryz.ntmps30
  go_wp2_with fail
  clear hmk
  go_loopw [4] (fun i wr => ∃ k : Nat, k ≤ 500 ∧ i = .int .i64 k ∧ wr.heap[g]? = some (.cells (((Po.rawL n).take k ++ (Pg.zeros 500).drop k).map bv).toArray 5 (0, 0)) ∧ Touch (fun j => j = g) W wr) (fun i _ => 500 - (intOf i).toNat)
  case atStart => exact ⟨0, Nat.zero_le _, rfl, HR.out, .refl _ _⟩
  case round =>
    obtain ⟨k, hk, rfl, hG, hT⟩ := hrel
    have HG1 := Lib.hid hG
    have HT := Lib.hid hT
    clear hG hT
    by_cases hlt : k < 500
    · have hki : (k : Int) < 500 := by omega
      have hlen : k < ((Po.rawL n).take k ++ (Pg.zeros 500).drop k).length := by simp [Po.rawL_length, Pg.zeros_length]; omega
      have c1 := blk_at HG1.out 0 hlen
      have f1 := blk_free HG1.out k
      have hm := blk_map (i := k) HG1.out (Po.bodyR n k)
      rw [Pg.set_mid (Po.rawL n) (Pg.zeros 500) k (Po.bodyR n k) (by rw [Po.rawL_length]; exact hlt) (by simp [Pg.zeros_length]; omega) (by simp [Po.rawL, hlt])] at hm
      have HM := Lib.hid hm
      have HT2 := Lib.hid (HT.out.trans (.set g k (bv (Po.bodyR n k)) rfl))
      clear hm hlen
      go_wp2_with fail
      rw [wrap_body]
      go_roundw
      case rel => exact ⟨k + 1, by omega, by go_num, HM.out, HT2.out⟩
      case measure => simp [intOf]; omega
    · obtain rfl : k = 500 := by omega
      have hG := HG1.out
      rw [List.take_of_length_le (by rw [Po.rawL_length]; omega), List.drop_of_length_le (by simp [Pg.zeros_length]), List.append_nil] at hG
      have c0 := blk_at (i := 0) hG 0 (by rw [Po.rawL_length]; decide)
      have f0 := blk_free hG 0
      have h1 := blk_map (i := 0) hG (n % 256).toNat
      have c1 := blk_at (i := 1) h1 0 (by rw [List.length_set, Po.rawL_length]; decide)
      have f1 := blk_free h1 1
      have h2 := blk_map (i := 1) h1 ((n / 256) % 256).toNat
      have e1 : bv (n % 256).toNat = .int .u8 (n % 256) := by unfold bv; congr 1; omega
      have e2 : bv ((n / 256) % 256).toNat = .int .u8 ((n / 256) % 256) := by unfold bv; congr 1; omega
      have HT3 := Lib.hid ((HT.out.trans (.set g 0 (bv (n % 256).toNat) rfl)).trans (.set g 1 (bv ((n / 256) % 256).toNat) rfl))
      rw [e1, e2] at HT3 h2
      rw [e1] at c1 f1
      rw [show (((Po.rawL n).set 0 (n % 256).toNat).set 1 ((n / 256) % 256).toNat) = Po.bodyL n from rfl] at h2
      have HR2 := Lib.hid h2
      clear hG h1 h2 e1 e2 HG1 HT
      go_wp2_with fail
      go_ret
      have ho := own_blk (base := g) HR2.out (Nat.le_refl _) (Po.bodyL_small n) (by rw [Po.bodyL_length]; decide)
      rw [Po.bodyL_length] at ho
      exact ⟨g, rfl, by rw [HG.out]; exact Nat.le_refl _, by rw [HG.out]; exact ho, HB.out.trans (HT3.out.below (fun i e => by rw [e, HG.out]; exact Nat.le_refl _) (by have := HB.out.size; omega))⟩
end Go.Proofs.YtbpodmallknhfaaGreat
namespace Go.Proofs.YtbpodmallknhfaaGreat
open Go.RowKit
def From (base : Nat) (U : Nat → Prop) : Prop := ∀ i, U i → base ≤ i
theorem Grew.from {base : Nat} {U U' : Nat → Prop} {w : World} (h : Grew U U' w) (hf : From base U) (hb : base ≤ w.heap.size) : From base U' := fun i hi => by
  rcases h i hi with h1 | h1
  · exact hf i h1
  · omega
theorem from_new {base : Nat} {U : Nat → Prop} {w : World} (h : ∀ i, U i → w.heap.size ≤ i) (hb : base ≤ w.heap.size) : From base U := fun i hi => Nat.le_trans hb (h i hi)
theorem Touch.under {base : Nat} {U : Nat → Prop} {w w' : World} (h : Touch U w w') (hf : From base U) (hb : base ≤ w.heap.size) : Below base w w' := h.below hf hb
theorem from_three {base : Nat} {U V X : Nat → Prop} (h : From base U) (k : From base V) (l : From base X) : From base (Three U V X) := fun i hi => hi.elim (h i) fun hi => hi.elim (k i) (l i)
section
variable {PD : (Nat → Prop) → World → Nat → Dk.Dev → Prop} {PL : (Nat → Prop) → (Nat → Prop) → World → Nat → Nat → Dk.Dev → Wl.S → Prop} {PO : (Nat → Prop) → World → Nat → Nat → Nat → Po.S → Prop} {Hd : Dk.Dev → Wl.S → Prop} {Hw : Dk.Dev → Po.Ar → (Nat → Po.Pg) → Prop} {Hp : Dk.Dev → Po.Ar → (Nat → Po.Pg → Prop) → Prop}
variable {U V X : Nat → Prop} {w w' : World} {B L P base : Nat} {d : Dk.Dev} {lg : Wl.S} {s : Po.S}
structure PoAt (PL : (Nat → Prop) → (Nat → Prop) → World → Nat → Nat → Dk.Dev → Wl.S → Prop) (PO : (Nat → Prop) → World → Nat → Nat → Nat → Po.S → Prop) (Hw : Dk.Dev → Po.Ar → (Nat → Po.Pg) → Prop) (base : Nat) (U V X : Nat → Prop) (w : World) (B L P : Nat) (d : Dk.Dev) (lg : Wl.S) (s : Po.S) : Prop where
  at_ : PoIn PL PO Hw U V X w B L P d lg s
  fu : From base U
  fv : From base V
  fx : From base X
theorem PoApi.keep (A : PoApi PD PL PO Hd Hw Hp) (h : PoIn PL PO Hw U V X w B L P d lg s) {T : Nat → Prop} (ht : Touch T w w') (hs : ∀ i, Three U V X i → ¬ T i) : PoIn PL PO Hw U V X w' B L P d lg s :=
  ⟨A.pkeep h.log ht (fun i hi => hs i (hi.elim Or.inl fun h => Or.inr (Or.inl h))), A.okeep h.own ht (fun i hi => hs i (Or.inr (Or.inr hi))), h.area, h.off, h.rule, h.away⟩
theorem PoApi.lt (A : PoApi PD PL PO Hd Hw Hp) (h : PoIn PL PO Hw U V X w B L P d lg s) : ∀ i, Three U V X i → i < w.heap.size := fun i hi =>
  hi.elim (fun h1 => A.plt h.log i (Or.inl h1)) fun hi => hi.elim (fun h1 => A.plt h.log i (Or.inr h1)) (A.olt h.own i)
theorem PoApi.below (A : PoApi PD PL PO Hd Hw Hp) (h : PoIn PL PO Hw U V X w B L P d lg s) (hb : Below w.heap.size w w') : PoIn PL PO Hw U V X w' B L P d lg s :=
  A.keep h (T := fun i => w.heap.size ≤ i) (.of_below hb fun _ _ h => h) fun i hi => by have := A.lt h i hi; omega
theorem PoAt.below (A : PoApi PD PL PO Hd Hw Hp) (h : PoAt PL PO Hw base U V X w B L P d lg s) (hb : Below w.heap.size w w') : PoAt PL PO Hw base U V X w' B L P d lg s :=
  ⟨A.below h.at_ hb, h.fu, h.fv, h.fx⟩
theorem PoAt.went {w' : World} {d' : Dk.Dev} {lg' : Wl.S} {s' : Po.S} (h : PoAt PL PO Hw base U V X w B L P d lg s) (hg : PoWent PL PO Hw U V X w B L P w' d' lg' s') (hb : base ≤ w.heap.size) :
    ∃ U' V' X', PoAt PL PO Hw base U' V' X' w' B L P d' lg' s' ∧ Below base w w' ∧ Touch (Three U V X) w w' ∧ Grew U U' w ∧ Grew V V' w ∧ Grew X X' w := by
  obtain ⟨U', V', X', h1, h2, h3, h4, h5⟩ := hg
  exact ⟨U', V', X', ⟨h1, h3.from h.fu hb, h4.from h.fv hb, h5.from h.fx hb⟩, h2.under (from_three h.fu h.fv h.fx) hb, h2, h3, h4, h5⟩
theorem PoIn.good (A : PoApi PD PL PO Hd Hw Hp) (h : PoIn PL PO Hw U V X w B L P d lg s) : Po.Good s := A.ogood h.own
set_option maxHeartbeats 3200000 in
set_option maxRecDepth 20000 in
theorem begin_any (A : PoApi PD PL PO Hd Hw Hp) (fr : Nat) (h1 : 1 ≤ fr) (h2 : fr ≤ 64) (w : World) : Calls Tryz.prog 8 #[.int .i64 (fr : Int)] w fun e w' =>
    ∃ B L P U V X d, e = .returned (.tuple #[.pointer (some ⟨B, 0, none⟩), .pointer (some ⟨L, 0, none⟩), .pointer (some ⟨P, 0, none⟩), .bool true]) ∧ PoAt PL PO Hw w.heap.size U V X w' B L P d (Wl.fresh 0 30) (Po.fresh (fun _ => Po.blank) fr Po.area) ∧ Wl.Calm 120 d ∧ Below w.heap.size w w' := by
  have HA := Lib.hid A
  have HF : Hid (1 ≤ fr ∧ fr ≤ 64) := ⟨h1, h2⟩
  clear A h1 h2
  go_enter Tryz.func8, Tryz.ntmps8
  go_wp2_with fail
  refine (HA.out.new 120 w (by decide) (by decide)).mono ?_
  rintro e w1 ⟨B, U, rfl, hD, hU, hb⟩
  have HD := Lib.hid hD
  have HU : Hid (From w.heap.size U) := fun i hi => hU i hi
  have HB := Lib.hid hb
  clear hD hU hb
  go_wp2_with fail
  refine (HA.out.make (n := 120) 0 30 HD.out ⟨by decide, by decide, by decide, by decide⟩).mono ?_
  rintro e w2 ⟨L, U2, V2, d2, rfl, hL, hC, hO, hT, hG, hV⟩
  have HL := Lib.hid hL
  have HB2 := Lib.hid (HB.out.trans ((hT.under HU.out HB.out.size).mono (Nat.le_refl _)))
  have HU2 := Lib.hid (hG.from HU.out HB.out.size)
  have HV2 := Lib.hid (from_new hV HB.out.size)
  have HC2 := Lib.hid hC
  have hz : Dk.size d2 = 120 := hC.sz
  have HW2 := Lib.hid (HA.out.hw_blank (d := d2) (a := Po.area) (n := 120) (HA.out.dok (HA.out.dev hL)) hz Po.area_fits fun i hi => by
    have hi2 : i < 120 := by
      rcases hi with ⟨-, h⟩ | ⟨-, h⟩
      · have h : (i : Int) < 34 + 5 := h
        omega
      · have h : (i : Int) < 40 + 4 * 16 := h
        omega
    have := hO i (Po.area_away i hi) (by show (List.replicate 120 (none : Option (List Nat))).getD i none = none; rw [List.getD_eq_getElem?_getD, List.getElem?_replicate]; split <;> rfl)
    refine ⟨this.1, this.2.trans ?_⟩
    show (List.replicate 120 Dk.blank).getD i [] = Dk.blank
    rw [List.getD_eq_getElem?_getD, List.getElem?_replicate, if_pos hi2]; rfl)
  clear hL hC hT hG hV HD HU HB hz hO
  go_wp2_with fail
  refine (area_any w2).mono ?_
  rintro e w3 ⟨rfl, hb⟩
  have HL3 := Lib.hid (HA.out.pkeep HL.out (T := fun i => w2.heap.size ≤ i) (.of_below hb fun _ _ h => h) fun i hi => by have := HA.out.plt HL.out i hi; omega)
  have HB3 := Lib.hid (HB2.out.trans (hb.mono HB2.out.size))
  clear hb HL HB2
  go_wp2_with fail
  refine (HA.out.mend HL3.out HC2.out Po.area_fits Po.area_ok Po.area_away HW2.out).mono ?_
  rintro e w4 ⟨rfl, U4, d4, hL, hC, hW, hT, hG⟩
  have HL4 := Lib.hid hL
  have HC4 := Lib.hid hC
  have HW4 := Lib.hid hW
  have HU4 := Lib.hid (hG.from HU2.out HB3.out.size)
  have HB4 := Lib.hid (HB3.out.trans ((hT.under HU2.out HB3.out.size).mono (Nat.le_refl _)))
  clear hL hC hW hT hG HL3 HC2 HW2 HU2 HB3
  go_wp2_with fail
  refine (area_any w4).mono ?_
  rintro e w5 ⟨rfl, hb⟩
  have HL5 := Lib.hid (HA.out.pkeep HL4.out (T := fun i => w4.heap.size ≤ i) (.of_below hb fun _ _ h => h) fun i hi => by have := HA.out.plt HL4.out i hi; omega)
  have HB5 := Lib.hid (HB4.out.trans (hb.mono HB4.out.size))
  clear hb HL4 HB4
  go_wp2_with fail
  refine (HA.out.make_pool fr HL5.out HC4.out Po.area_fits Po.area_ok HW4.out (fun _ => Po.blank_ok) HF.out.1 HF.out.2).mono ?_
  rintro e w6 ⟨P, X, rfl, hP, hX, hb⟩
  have HL6 := Lib.hid (HA.out.pkeep HL5.out (T := fun i => w5.heap.size ≤ i) (.of_below hb fun _ _ h => h) fun i hi => by have := HA.out.plt HL5.out i hi; omega)
  have HLT := Lib.hid (HA.out.plt HL5.out)
  have HB6 := Lib.hid (HB5.out.trans (hb.mono HB5.out.size))
  have HP := Lib.hid hP
  have HX := Lib.hid hX
  clear hb HL5 hP hX
  go_wp2_with fail
  refine bodyPost_ret (v := .tuple #[.pointer (some ⟨B, 0, none⟩), .pointer (some ⟨L, 0, none⟩), .pointer (some ⟨P, 0, none⟩), .bool true]) (by simp [results, Tryz.results8, go_sem]) rfl ?_
  refine ⟨B, L, P, U4, V2, X, d4, rfl, ⟨⟨HL6.out, HP.out, HW4.out, fun i hi hx => ?_, fun k => ⟨?_, ?_⟩, Po.area_away⟩, HU4.out, HV2.out, from_new HX.out HB5.out.size⟩, HC4.out, HB6.out⟩
  · have := HLT.out i hi
    have := HX.out i hx
    omega
  · show 0 < 52; decide
  · show 0 < 52; decide
theorem Po.not_full_one {s : Po.S} (g : Po.Good s) (hp : ∀ k, k ≠ 1 → s.pins k = 0) (hf : 2 ≤ s.frames) : ¬ Po.Full s := fun h => by
  have h1 := h.1
  have h2 := h.2
  have h3 := g.sorted
  cases e : s.held with
  | nil => rw [e, List.length_nil] at h1; omega
  | cons a l =>
    cases e2 : l with
    | nil => rw [e, e2, List.length_singleton] at h1; omega
    | cons b l2 =>
      rw [e, e2] at h2 h3
      have ha := h2 a (List.mem_cons_self ..)
      have hb := h2 b (List.mem_cons_of_mem _ (List.mem_cons_self ..))
      have hab := (List.pairwise_cons.1 h3).1 b (List.mem_cons_self ..)
      by_cases e3 : a = 1
      · have := hp b (by omega); omega
      · have := hp a e3; omega
def KnPF (Q : Nat) (pv : Value) (bd : Value) (S : ByteArray) (W : Nat) (i : Nat) (v : Value) (w : World) : Prop :=
  match i with
  | 0 => v = .int .i64 0
  | 1 => v = .bool true
  | 2 => v = .bool true
  | 3 => v = .pointer (some ⟨Q, 1, none⟩)
  | 4 => v = bd
  | 5 => v = .string S
  | 6 => Own W w v (Po.bodyL 5)
  | 7 => v = .string S
  | 8 => v = .bool true
  | 9 => v = .bool true
  | 10 => v = .bool true
  | 11 => v = pv
  | 12 => v = .int .i64 1
  | 13 => v = .bool true
  | 14 => v = .bool true
  | 15 => v = .bool true
  | _ => True
theorem KnPF_later (Q : Nat) (pv : Value) (bd : Value) (S : ByteArray) (W : Nat) (i : Nat) (v : Value) (w w' : World) (hb : Below w.heap.size w w') (h : KnPF Q pv bd S W i v w) : KnPF Q pv bd S W i v w' := by
  unfold KnPF at *
  split at h <;> first | exact h | exact h.below hb | trivial
set_option maxHeartbeats 3200000 in
set_option maxRecDepth 20000 in
theorem known_any (A : PoApi PD PL PO Hd Hw Hp) (w : World) : Calls Tryz.prog 7 #[] w fun e w' => e = .returned (.bool true) ∧ Below w.heap.size w w' := by
  have HA := Lib.hid A
  clear A
  go_enter Tryz.func7, Tryz.ntmps7
  go_wp2_with fail
  refine (begin_any HA.out 2 (by decide) (by decide) w).mono ?_
  rintro e w1 ⟨B, L, P, U, V, X, d, rfl, hP, hC, hb⟩
  have HP := Lib.hid hP
  have HC := Lib.hid hC
  have HB := Lib.hid hb
  clear hP hC hb
  go_wp2_with fail
  refine (body11_any 5 w1).mono ?_
  rintro e w2 ⟨g, rfl, -, hO, hb⟩
  have HP2 := Lib.hid (HP.out.below HA.out hb)
  have HB2 := Lib.hid (HB.out.trans (hb.mono HB.out.size))
  have HO2 := Lib.hid hO
  clear hO hb HP HB
  go_wp2_with fail
  refine (HA.out.put 3 (0, Po.bodyL 5) _ HP2.out.at_ ⟨HA.out.dok (HA.out.dev HP2.out.at_.log), HC.out.sz, HC.out.most⟩ (by decide) (by decide) (Or.inr (Po.not_full_none (fun _ => rfl) (by decide))) (Po.bodyL_ok 5 (by decide)) HO2.out.bts (by decide)).mono ?_
  rintro e w3 h
  obtain ⟨d3, lg3, s3, rfl, hw, -, hC3, hlf, hs⟩ : ∃ d' lg' s', e = .returned (.int .i64 0) ∧ PoWent PL PO Hw U V X w2 B L P w3 d' lg' s' ∧ Wl.Near 120 d' ∧ (Wl.Calm 120 d → Wl.Calm 120 d') ∧ Po.Lf (Wl.fresh 0 30) lg' ∧ Po.PutTo (Po.fresh (fun _ => Po.blank) 2 Po.area) 3 (0, Po.bodyL 5) s' := by
    rcases h with h | ⟨h, -⟩
    · exact h
    · exact absurd HC.out h
  obtain ⟨U3, V3, X3, hP, hb, -⟩ := HP2.out.went hw HB2.out.size
  have HP3 := Lib.hid hP
  have HC3 := Lib.hid (hC3 HC.out)
  have HB3 := Lib.hid (HB2.out.trans hb)
  have HS3 := Lib.hid hs
  have HL3 := Lib.hid hlf
  clear h hw hC3 hlf hs hP hb HP2 HC HB2 HO2
  go_wp2_with fail
  have har : s3.ar = Po.area := HS3.out.ar
  have hst : lg3.stop = 52 := HL3.out.stop
  refine (HA.out.pin 1 HP3.out.at_ HC3.out (by rw [hst]; decide) (by rw [har]; decide) (Or.inr (Po.not_full_none (fun k => by rw [HS3.out.pins]; rfl) (by rw [HS3.out.frames]; decide))) (by rw [HS3.out.pins]; decide)).mono ?_
  rintro e w4 ⟨rfl, d4, lg4, s4, hw, hC, hlf, hs⟩
  obtain ⟨U4, V4, X4, hP, hb, -⟩ := HP3.out.went hw HB3.out.size
  have HP4 := Lib.hid hP
  have HC4 := Lib.hid hC
  have HB4 := Lib.hid (HB3.out.trans hb)
  have HS4 := Lib.hid hs
  have HL4 : Hid (lg4.stop = 52) := hlf.stop.trans hst
  have HAR : Hid (s4.ar = Po.area) := hs.ar.trans har
  have HPI : Hid (s4.pins = Po.upd (fun _ => 0) 1 1) := by show _ = _; rw [hs.pins, HS3.out.pins]; rfl
  have HN : Hid (s4.now 3 = (0, Po.bodyL 5)) := by show _ = _; rw [hs.now, HS3.out.now]; exact Po.upd_self _ _ _
  have HFR : Hid (s4.frames = 2) := hs.frames.trans HS3.out.frames
  clear hw hC hlf hs hP hb HP3 HC3 HB3 hst har HS3 HL3
  go_wp2_with fail
  have hc := HA.out.get 3 HP4.out.at_ HC4.out (by rw [HL4.out]; decide) (by rw [HAR.out]; decide) (Or.inr (Po.not_full_one (HP4.out.at_.good HA.out) (fun k hk => by rw [HPI.out]; exact Po.upd_ne _ _ hk) (by rw [HFR.out]; decide)))
  rw [HN.out] at hc
  refine hc.mono ?_
  rintro e w5 ⟨u, d5, lg5, s5, rfl, hO, hw, hC, -, hs, -, -⟩
  obtain ⟨U5, V5, X5, hP, hb, -⟩ := HP4.out.went hw.went HB4.out.size
  obtain ⟨p3, c3, rfl⟩ : ∃ p c, u = .slice p 500 c := by
    obtain ⟨p, c, e, -⟩ := hO.bts.form
    rw [Po.bodyL_length] at e
    exact ⟨p, c, e⟩
  have HP5 := Lib.hid hP
  have HC5 := Lib.hid hC
  have HB5 := Lib.hid (HB4.out.trans hb)
  have HO5 := Lib.hid hO
  have HP1 : Hid (s5.pins 1 = 1) := by show _ = _; rw [hs.pins, HPI.out]; rfl
  have HA5 : Hid (s5.ar = Po.area) := hs.ar.trans HAR.out
  clear hc hO hw hC hs hP hb HP4 HC4 HB4 HS4 HL4 HPI HN HFR HAR
  obtain ⟨S, hS⟩ : ∃ S, S = strOfNums ((Po.bodyL 5).map fun x : Nat => (x : Int)) := ⟨_, rfl⟩
  have HS := Lib.hid hS
  clear hS
  go_upto_region 5 with (fail)
  obtain ⟨W, hW⟩ : ∃ W, W = w5.alloc (.cells #[.int .u64 0, .slice p3 500 c3] 59) := ⟨_, rfl⟩
  have hr : W.heap[w5.heap.size]? = some (.cells #[.int .u64 0, .slice p3 500 c3] 59 (0, 0)) := by rw [hW]; exact heap_alloc_last _ _
  have hb : Below w5.heap.size w5 W := by rw [hW]; exact (Below.refl _ _).alloc (Nat.le_refl _) _
  rw [← hW]
  obtain ⟨Q, hQ⟩ : ∃ Q, Q = w5.heap.size := ⟨_, rfl⟩
  rw [← hQ] at hr ⊢
  have C1 := Lib.hid (cell2_1 hr)
  have HQ : Hid (Q < W.heap.size) := lt_of_block hr
  have HO := Lib.hid (HO5.out.bts.below hb)
  have HB6 := Lib.hid (HB5.out.trans (hb.mono HB5.out.size))
  have HP6 := Lib.hid (HP5.out.below HA.out hb)
  clear hW hr hb hQ HP5 HB5 HO5
  have hstr : ∀ W', Below W.heap.size W W' → (convert 57 9 (.slice p3 500 c3)).run Tryz.prog W' = .ok (.string S) W' := fun W' h => by rw [HS.out]; exact strOf_conv (HO.out.below h)
  have HSTR := Lib.hid hstr
  have hpin : ∀ W', Below W.heap.size W W' → Calls Tryz.prog 12 #[.pointer (some ⟨P, 0, none⟩), .int .i64 1] W' fun e w' => e = .returned (.int .i64 1) ∧ Below W'.heap.size W' w' := fun W' h => by
    have hc := HA.out.pins 1 (HA.out.below HP6.out.at_ h) HC5.out (by rw [HA5.out]; decide) (by rw [HP1.out]; decide)
    rw [HP1.out] at hc
    exact hc.mono fun _ _ ⟨he, q, hq⟩ => ⟨he, by rw [hq]; exact below_drewN _ _ _⟩
  have HPIN := Lib.hid hpin
  clear hstr hpin
  refine Ord.walk (KnPF Q (.pointer (some ⟨P, 0, none⟩)) (.slice p3 500 c3) S W.heap.size) (fun _ _ w' => Below W.heap.size W w') (fun a b => Below a.heap.size a b)
    (by kernel_rfl) (by kernel_rfl) ?fr ?hfr (fun i v w w' hb h => KnPF_later _ _ _ _ _ i v w w' hb h) (fun xs => (Below.refl _ _).go1) ?he ?hend
  case hfr =>
    intro xs
    simp only [Ord.fill, Act.put, List.setIfInBounds_toArray, List.set_cons_zero, List.set_cons_succ]
    rfl
  case he =>
    refine Ord.each_cons (fun D xs w2 hD hC hP hR hA K hK => ?_) ?_
    ·
      clear hA
      go_simp
      exact hK _ _ ⟨_, rfl, Below.refl _ _, hR, rfl⟩
    refine Ord.each_cons (fun D xs w2 hD hC hP hR hA K hK => ?_) ?_
    ·
      have q0 := Ord.ahead_get _ hA 0 (by decide)
      simp only [KnPF] at q0
      simp only [q0] at hK
      clear hA
      go_simp
      exact hK _ _ ⟨_, rfl, Below.refl _ _, hR, rfl⟩
    refine Ord.each_cons (fun D xs w2 hD hC hP hR hA K hK => ?_) ?_
    ·
      have q1 := Ord.ahead_get _ hA 1 (by decide)
      simp only [KnPF] at q1
      simp only [q1] at hK
      clear hA
      go_simp
      exact hK _ _ ⟨_, rfl, Below.refl _ _, hR, rfl⟩
    refine Ord.each_cons (fun D xs w2 hD hC hP hR hA K hK => ?_) ?_
    ·
      have q2 := Ord.ahead_get _ hA 2 (by decide)
      simp only [KnPF] at q2
      simp only [q2] at hK
      clear hA
      go_simp
      exact hK _ _ ⟨_, rfl, Below.refl _ _, hR, rfl⟩
    refine Ord.each_cons (fun D xs w2 hD hC hP hR hA K hK => ?_) ?_
    ·
      have q3 := Ord.ahead_get _ hA 3 (by decide)
      simp only [KnPF] at q3
      have q2 := Ord.ahead_get _ hA 2 (by decide)
      simp only [KnPF] at q2
      simp only [q3, q2] at hK
      clear hA
      have cc := hR.cell (p := ⟨Q, 1, none⟩) HQ.out
      rw [C1.out] at cc
      go_simp
      exact hK _ _ ⟨_, rfl, Below.refl _ _, hR, rfl⟩
    refine Ord.each_cons (fun D xs w2 hD hC hP hR hA K hK => ?_) ?_
    ·
      have q4 := Ord.ahead_get _ hA 4 (by decide)
      simp only [KnPF] at q4
      have q2 := Ord.ahead_get _ hA 2 (by decide)
      simp only [KnPF] at q2
      simp only [q4, q2] at hK
      clear hA
      have hcv := HSTR.out _ hR
      go_simp
      exact hK _ _ ⟨_, rfl, Below.refl _ _, hR, rfl⟩
    refine Ord.each_cons (fun D xs w2 hD hC hP hR hA K hK => ?_) ?_
    ·
      have q2 := Ord.ahead_get _ hA 2 (by decide)
      simp only [KnPF] at q2
      simp only [q2] at hK
      clear hA
      go_simp
      refine (body11_any 5 w2).mono ?_
      rintro e w' ⟨g, rfl, -, hO, hb⟩
      exact hK _ _ ⟨_, rfl, hb, hR.trans (hb.mono hR.size), hO.from hR.size⟩
    refine Ord.each_cons (fun D xs w2 hD hC hP hR hA K hK => ?_) ?_
    ·
      have q2 := Ord.ahead_get _ hA 2 (by decide)
      simp only [KnPF] at q2
      have q6 := Ord.ahead_get _ hA 6 (by decide)
      simp only [KnPF] at q6
      simp only [q2] at hK
      clear hA
      have hcv : (convert 57 9 (xs 6)).run Tryz.prog w2 = .ok (.string S) w2 := by rw [HS.out]; exact strOf_conv q6.bts
      go_simp
      exact hK _ _ ⟨_, rfl, Below.refl _ _, hR, rfl⟩
    refine Ord.each_cons (fun D xs w2 hD hC hP hR hA K hK => ?_) ?_
    ·
      have q5 := Ord.ahead_get _ hA 5 (by decide)
      simp only [KnPF] at q5
      have q7 := Ord.ahead_get _ hA 7 (by decide)
      simp only [KnPF] at q7
      have q2 := Ord.ahead_get _ hA 2 (by decide)
      simp only [KnPF] at q2
      simp only [q5, q7, q2] at hK
      clear hA
      go_simp
      exact hK _ _ ⟨_, rfl, Below.refl _ _, hR, rfl⟩
    refine Ord.each_cons (fun D xs w2 hD hC hP hR hA K hK => ?_) ?_
    ·
      have q2 := Ord.ahead_get _ hA 2 (by decide)
      simp only [KnPF] at q2
      have q8 := Ord.ahead_get _ hA 8 (by decide)
      simp only [KnPF] at q8
      simp only [q2, q8] at hK
      clear hA
      go_simp
      exact hK _ _ ⟨_, rfl, Below.refl _ _, hR, rfl⟩
    refine Ord.each_cons (fun D xs w2 hD hC hP hR hA K hK => ?_) ?_
    ·
      have q9 := Ord.ahead_get _ hA 9 (by decide)
      simp only [KnPF] at q9
      simp only [q9] at hK
      clear hA
      go_simp
      exact hK _ _ ⟨_, rfl, Below.refl _ _, hR, rfl⟩
    refine Ord.each_cons (fun D xs w2 hD hC hP hR hA K hK => ?_) ?_
    ·
      have q10 := Ord.ahead_get _ hA 10 (by decide)
      simp only [KnPF] at q10
      simp only [q10] at hK
      clear hA
      go_simp
      exact hK _ _ ⟨_, rfl, Below.refl _ _, hR, rfl⟩
    refine Ord.each_cons (fun D xs w2 hD hC hP hR hA K hK => ?_) ?_
    ·
      have q11 := Ord.ahead_get _ hA 11 (by decide)
      simp only [KnPF] at q11
      have q10 := Ord.ahead_get _ hA 10 (by decide)
      simp only [KnPF] at q10
      simp only [q11, q10] at hK
      clear hA
      go_simp
      refine (HPIN.out w2 hR).mono ?_
      rintro e w' ⟨rfl, hb⟩
      exact hK _ _ ⟨_, rfl, hb, hR.trans (hb.mono hR.size), rfl⟩
    refine Ord.each_cons (fun D xs w2 hD hC hP hR hA K hK => ?_) ?_
    ·
      have q12 := Ord.ahead_get _ hA 12 (by decide)
      simp only [KnPF] at q12
      have q10 := Ord.ahead_get _ hA 10 (by decide)
      simp only [KnPF] at q10
      simp only [q12, q10] at hK
      clear hA
      go_simp
      exact hK _ _ ⟨_, rfl, Below.refl _ _, hR, rfl⟩
    refine Ord.each_cons (fun D xs w2 hD hC hP hR hA K hK => ?_) ?_
    ·
      have q10 := Ord.ahead_get _ hA 10 (by decide)
      simp only [KnPF] at q10
      have q13 := Ord.ahead_get _ hA 13 (by decide)
      simp only [KnPF] at q13
      simp only [q10, q13] at hK
      clear hA
      go_simp
      exact hK _ _ ⟨_, rfl, Below.refl _ _, hR, rfl⟩
    refine Ord.each_cons (fun D xs w2 hD hC hP hR hA K hK => ?_) ?_
    ·
      have q14 := Ord.ahead_get _ hA 14 (by decide)
      simp only [KnPF] at q14
      simp only [q14] at hK
      clear hA
      go_simp
      exact hK _ _ ⟨_, rfl, Below.refl _ _, hR, rfl⟩
    exact Ord.each_nil
  case hend =>
    intro D xs w9 hR hF
    have e15 := (hF 15 (by decide)).2
    simp only [KnPF] at e15
    rw [e15]
    clear e15
    clear hF
    generalize xs 0 = x0 at *
    generalize xs 1 = x1 at *
    generalize xs 2 = x2 at *
    generalize xs 3 = x3 at *
    generalize xs 4 = x4 at *
    generalize xs 5 = x5 at *
    generalize xs 6 = x6 at *
    generalize xs 7 = x7 at *
    generalize xs 8 = x8 at *
    generalize xs 9 = x9 at *
    generalize xs 10 = x10 at *
    generalize xs 11 = x11 at *
    generalize xs 12 = x12 at *
    generalize xs 13 = x13 at *
    generalize xs 14 = x14 at *
    go_wp2_with fail
    go_ret
    exact ⟨rfl, HB6.out.trans (hR.mono HB6.out.size)⟩
end
end Go.Proofs.YtbpodmallknhfaaGreat
namespace Go.Proofs.YtbpodmallknhfaaGreat
open Go.RowKit
noncomputable def Po.bof (p : Prop) : Bool := @decide p (Classical.propDecidable p)
theorem Po.bof_true {p : Prop} (h : p) : Po.bof p = true := @decide_eq_true p (Classical.propDecidable p) h
theorem Po.bof_false {p : Prop} (h : ¬ p) : Po.bof p = false := @decide_eq_false p (Classical.propDecidable p) h
theorem Po.fits_iff (n : Nat) (a : Po.Ar) : a.Fits n ↔ ¬ a.pages < 1 ∧ ¬ a.spare < 0 ∧ ¬ a.base < 0 ∧ ¬ ((n : Int) - 5 < a.spare) ∧ ¬ ((n : Int) < a.base) ∧ ¬ (((n : Int) - a.base).tdiv 4 < a.pages) ∧ (a.spare + 5 ≤ a.base ∨ a.base + 4 * a.pages ≤ a.spare) := by
  constructor
  · rintro ⟨h1, h2, h3, h4, h5, h6⟩
    have e : ((n : Int) - a.base).tdiv 4 = ((n : Int) - a.base) / 4 := Int.tdiv_eq_ediv_of_nonneg (by omega)
    refine ⟨by omega, by omega, by omega, by omega, by omega, ?_, h6⟩
    rw [e]; omega
  · rintro ⟨h1, h2, h3, h4, h5, h6, h7⟩
    rw [Int.tdiv_eq_ediv_of_nonneg (by omega)] at h6
    exact ⟨by omega, by omega, by omega, by omega, by omega, h7⟩
set_option maxHeartbeats 1600000 in
set_option maxRecDepth 20000 in
theorem refMay_any (n : Nat) (a : Po.Ar) (w : World) (hn : n ≤ 65536) (ha : ArOk a) : Calls Tryz.prog 17 #[.int .i64 (n : Int), ArV a] w fun e w' => e = .returned (.bool (Po.bof (a.Fits n))) ∧ Below w.heap.size w w' := by
  have HN := Lib.hid hn
  have HAO := Lib.hid ha
  obtain ⟨W, hW⟩ : ∃ W, W = w.alloc (.cells #[.int .i64 a.spare, .int .i64 a.base, .int .i64 a.pages] 46) := ⟨_, rfl⟩
  have hr : W.heap[w.heap.size]? = some (.cells #[.int .i64 a.spare, .int .i64 a.base, .int .i64 a.pages] 46 (0, 0)) := by rw [hW]; exact heap_alloc_last _ _
  have hb : Below w.heap.size w W := by rw [hW]; exact below_new1 _ _
  obtain ⟨B, hB⟩ : ∃ B, B = w.heap.size := ⟨_, rfl⟩
  rw [← hB] at hr
  have c0 := cell3_0 hr
  have c1 := cell3_1 hr
  have c2 := cell3_2 hr
  have HB := Lib.hid hb
  have hw5 : wrap64 ((n : Int) - 5) = (n : Int) - 5 := IntWalk.wrap64_in _ ⟨by omega, by omega⟩
  clear hr hb hn ha
  have hiff := Po.fits_iff n a
  unfold ArV
  by_cases h1 : a.pages < 1
  case pos =>
    rw [Po.bof_false fun h => absurd h1 (hiff.1 h).1]
    clear hiff
    as_aux_lemma =>
      go_enter Tryz.func17, Tryz.ntmps17
      go_upto_region 1 with (fail)
      rw [← hW, ← hB]
      clear hW hB
      go_wp2_with fail
      go_ret
      exact ⟨rfl, HB.out⟩
  by_cases h2 : a.spare < 0
  case pos =>
    rw [Po.bof_false fun h => absurd h2 (hiff.1 h).2.1]
    clear hiff
    as_aux_lemma =>
      go_enter Tryz.func17, Tryz.ntmps17
      go_upto_region 1 with (fail)
      rw [← hW, ← hB]
      clear hW hB
      go_wp2_with fail
      go_ret
      exact ⟨rfl, HB.out⟩
  by_cases h3 : a.base < 0
  case pos =>
    rw [Po.bof_false fun h => absurd h3 (hiff.1 h).2.2.1]
    clear hiff
    as_aux_lemma =>
      go_enter Tryz.func17, Tryz.ntmps17
      go_upto_region 1 with (fail)
      rw [← hW, ← hB]
      clear hW hB
      go_wp2_with fail
      go_ret
      exact ⟨rfl, HB.out⟩
  by_cases h4 : (n : Int) - 5 < a.spare
  case pos =>
    rw [Po.bof_false fun h => absurd h4 (hiff.1 h).2.2.2.1]
    clear hiff
    as_aux_lemma =>
      go_enter Tryz.func17, Tryz.ntmps17
      go_upto_region 1 with (fail)
      rw [← hW, ← hB]
      clear hW hB
      go_wp2_with fail
      go_ret
      exact ⟨rfl, HB.out⟩
  by_cases h5 : (n : Int) < a.base
  case pos =>
    rw [Po.bof_false fun h => absurd h5 (hiff.1 h).2.2.2.2.1]
    clear hiff
    as_aux_lemma =>
      go_enter Tryz.func17, Tryz.ntmps17
      go_upto_region 1 with (fail)
      rw [← hW, ← hB]
      clear hW hB
      go_wp2_with fail
      go_ret
      exact ⟨rfl, HB.out⟩
  have hw6 : wrap64 ((n : Int) - a.base) = (n : Int) - a.base := IntWalk.wrap64_in _ ⟨by have := HN.out; omega, by have := HN.out; omega⟩
  have hw7 : wrap64 (((n : Int) - a.base).tdiv 4) = ((n : Int) - a.base).tdiv 4 := by
    have e : ((n : Int) - a.base).tdiv 4 = ((n : Int) - a.base) / 4 := Int.tdiv_eq_ediv_of_nonneg (by omega)
    have := HN.out
    rw [e]
    exact IntWalk.wrap64_in _ ⟨by omega, by omega⟩
  have hd : ¬ ((4 : Int) = 0) := by decide
  obtain ⟨qd, hqd⟩ : ∃ q, q = ((n : Int) - a.base).tdiv 4 := ⟨_, rfl⟩
  have HQ : Hid (qd ≤ 65536 ∧ 4 * qd ≤ (n : Int) - a.base) := by
    show _ ∧ _
    rw [hqd, Int.tdiv_eq_ediv_of_nonneg (by omega)]
    have := HN.out
    omega
  rw [← hqd] at hw7 hiff
  by_cases h6 : qd < a.pages
  case pos =>
    rw [Po.bof_false fun h => absurd h6 (hiff.1 h).2.2.2.2.2.1]
    have hqe := hqd.symm
    clear hiff hqd
    as_aux_lemma =>
      go_enter Tryz.func17, Tryz.ntmps17
      go_upto_region 1 with (fail)
      rw [← hW, ← hB]
      clear hW hB
      go_wp2_with fail
      go_ret
      exact ⟨rfl, HB.out⟩
  have HP : Hid (1 ≤ a.pages ∧ a.pages ≤ 65536 ∧ 0 ≤ a.spare ∧ a.spare ≤ 65536 ∧ 0 ≤ a.base ∧ a.base ≤ 65536 ∧ 4 * a.pages ≤ 65536) := by
    show _ ∧ _
    have := HQ.out
    have := HN.out
    omega
  have hwa : wrap64 (a.spare + 5) = a.spare + 5 := IntWalk.wrap64_in _ ⟨by have := HP.out; omega, by have := HP.out; omega⟩
  have hwb : wrap64 (4 * a.pages) = 4 * a.pages := IntWalk.wrap64_in _ ⟨by have := HP.out; omega, by have := HP.out; omega⟩
  have hwc : wrap64 (a.base + 4 * a.pages) = a.base + 4 * a.pages := IntWalk.wrap64_in _ ⟨by have := HP.out; omega, by have := HP.out; omega⟩
  have hqe := hqd.symm
  clear hqd
  by_cases h7 : a.spare + 5 ≤ a.base
  case pos =>
    rw [Po.bof_true (hiff.2 ⟨h1, h2, h3, h4, h5, h6, Or.inl h7⟩)]
    clear hiff
    as_aux_lemma =>
      go_enter Tryz.func17, Tryz.ntmps17
      go_upto_region 1 with (fail)
      rw [← hW, ← hB]
      clear hW hB
      go_wp2_with fail
      go_ret
      exact ⟨rfl, HB.out⟩
  by_cases h8 : a.base + 4 * a.pages ≤ a.spare
  case pos =>
    rw [Po.bof_true (hiff.2 ⟨h1, h2, h3, h4, h5, h6, Or.inr h8⟩)]
    clear hiff
    as_aux_lemma =>
      go_enter Tryz.func17, Tryz.ntmps17
      go_upto_region 1 with (fail)
      rw [← hW, ← hB]
      clear hW hB
      go_wp2_with fail
      go_ret
      exact ⟨rfl, HB.out⟩
  case neg =>
    rw [Po.bof_false fun h => by rcases (hiff.1 h).2.2.2.2.2.2 with h | h; exact h7 h; exact h8 h]
    clear hiff
    as_aux_lemma =>
      go_enter Tryz.func17, Tryz.ntmps17
      go_upto_region 1 with (fail)
      rw [← hW, ← hB]
      clear hW hB
      go_wp2_with fail
      go_ret
      exact ⟨rfl, HB.out⟩
end Go.Proofs.YtbpodmallknhfaaGreat
