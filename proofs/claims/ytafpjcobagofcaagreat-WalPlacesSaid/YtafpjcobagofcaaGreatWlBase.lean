/- A log of records, plainly: records one behind the other, from which place on they are held, up to which they last. Conditions: none. What the laws ask of the program's log and its device, for any way to keep them. Conditions: the program's contracts (a structure). New bytes, and numbers taken modulo another. Conditions: none. What WalRound's rounds leave, plainly: the last few records, one behind the other. Conditions: none. A log of ends of transactions alone, plainly. Conditions: none. -/
import Derived.Test.YtafpjcobagofcaaGreatRecM
import Derived.Test.YtafpjcobagofcaaGreatDkM
import Derived.Test.YtafpjcobagofcaaGreatBase
import Derived.Deep.WholeRow
namespace Go.Proofs.YtafpjcobagofcaaGreat.Wl
open Go.Proofs.YtafpjcobagofcaaGreat

structure S where
  recs : List Lr.R
  start : Nat
  stop : Nat
  flushed : Nat
  point : Nat
  epoch : Nat
  at_ : Nat
  count : Nat
def fresh (a count : Nat) : S := ⟨[], 52, 52, 52, 0, 1, a, count⟩
def size (x : Lr.R) : Nat := (Lr.form x).length
def stamp (s : S) (x : Lr.R) : Lr.R := { x with lsn := s.stop, epoch := s.epoch }
def left (s : S) : Int := (((s.start / 52 + 2 * s.count) * 52 : Nat) : Int) - (s.stop : Int)
def app (s : S) (x : Lr.R) : S := { s with recs := s.recs ++ [stamp s x], stop := s.stop + size (stamp s x) }
/-- Append: the log behind it, the place, the error. -/
noncomputable def appendR (s : S) (x : Lr.R) : S × Nat × Nat := Lr.ifP (Lr.May (stamp s x)) (if (size (stamp s x) : Int) ≤ left s then (app s x, s.stop, 0) else (s, 0, 5)) (s, 0, 2)
def flush (s : S) : S := { s with flushed := s.stop }
def find (s : S) (lsn : Nat) : Option Lr.R := s.recs.find? (fun x => x.lsn == lsn)
/-- Read: the record, the place behind it, the error. -/
def readR (s : S) (lsn : Nat) : Lr.R × Nat × Nat := match find s lsn with
  | some x => (x, lsn + size x, 0)
  | none => (Lr.zero, 0, 7)
def MayMaster (s : S) (a p : Nat) : Prop := s.start ≤ a ∧ a ≤ s.flushed ∧ (a = s.stop ∨ ∃ x ∈ s.recs, x.lsn = a) ∧ (p = 0 ∨ (a ≤ p ∧ p < s.flushed ∧ ∃ x ∈ s.recs, x.lsn = p))
def master (s : S) (a p : Nat) : S := { s with recs := s.recs.filter (fun x => decide (a ≤ x.lsn)), start := a, point := p }
/-- The place of the record with number k, or the end. -/
def placeOf (s : S) (k : Nat) : Nat := match s.recs[k]? with
  | some x => x.lsn
  | none => s.stop
/-- The first k records, and no more. -/
def cut (s : S) (k : Nat) : S := { s with recs := s.recs.take k, stop := placeOf s k, flushed := placeOf s k, epoch := s.epoch + 1 }
/-- Does a log fit on a device of n sectors? -/
def Fits (n : Nat) (a c : Int) : Prop := 16 ≤ c ∧ c ≤ 8192 ∧ 0 ≤ a ∧ a + c + 2 ≤ n
/-- A device that is on and not armed; each sector may be written. -/
structure Calm (n : Nat) (d : Dk.Dev) : Prop where
  off : d.off = false
  armed : d.armed = 0
  sz : Dk.size d = n
  most : d.most = n
/-- .. or was, ahead of a crash. -/
structure Near (n : Nat) (d : Dk.Dev) : Prop where
  ok : Dk.Ok d
  sz : Dk.size d = n
  most : d.most = n
theorem calm_fresh {n : Nat} : Calm n (Dk.fresh n n) := ⟨rfl, rfl, by show (List.replicate n Dk.blank).length = n; rw [List.length_replicate], rfl⟩
theorem Near.crash {n : Nat} {d : Dk.Dev} (h : Near n d) (ps : List Nat) : Calm n (Dk.crash d ps) :=
  ⟨rfl, rfl, by show (Dk.crashL d.waits d.lasts ps).length = n; rw [Dk.crashL_length _ _ _ h.ok.w]; exact h.sz, h.most⟩

/-- Records one behind the other from p on, up to q. -/
def chain : Nat → List Lr.R → Nat → Prop
  | p, [], q => p = q
  | p, x :: l, q => x.lsn = p ∧ chain (p + size x) l q
theorem size_pos (x : Lr.R) : 19 ≤ size x := by
  unfold size
  rw [Lr.form_length]; omega
theorem chain_le : ∀ {l : List Lr.R} {p q : Nat}, chain p l q → p ≤ q
  | [], _, _, h => Nat.le_of_eq h
  | x :: l, p, q, h => by
    have := chain_le h.2
    omega
theorem chain_snoc : ∀ {l : List Lr.R} {p q : Nat} {x : Lr.R}, chain p l q → x.lsn = q → chain p (l ++ [x]) (q + size x)
  | [], p, q, x, h, hx => by
    obtain rfl : p = q := h
    exact ⟨hx, rfl⟩
  | y :: l, p, q, x, h, hx => ⟨h.1, chain_snoc h.2 hx⟩
theorem chain_at : ∀ {l : List Lr.R} {p q : Nat}, chain p l q → ∀ (i : Nat) (hi : i < l.length), p ≤ (l[i]).lsn ∧ (l[i]).lsn + size l[i] ≤ q ∧ l.find? (fun x => x.lsn == (l[i]).lsn) = some l[i]
  | [], _, _, _, i, hi => absurd hi (Nat.not_lt_zero i)
  | x :: l, p, q, h, 0, _ => by
    have h2 := chain_le h.2
    refine ⟨?_, ?_, ?_⟩
    · show p ≤ x.lsn; rw [h.1]; exact Nat.le_refl _
    · show x.lsn + size x ≤ q; rw [h.1]; exact h2
    · show List.find? _ (x :: l) = some x
      rw [List.find?_cons_of_pos]; simp
  | x :: l, p, q, h, i + 1, hi => by
    have hi' : i < l.length := by simpa using hi
    obtain ⟨h1, h2, h3⟩ := chain_at h.2 i hi'
    have hs := size_pos x
    refine ⟨?_, h2, ?_⟩
    · show p ≤ (l[i]).lsn; omega
    · show List.find? _ (x :: l) = some l[i]
      rw [List.find?_cons_of_neg]
      · exact h3
      · show ¬ (x.lsn == (l[i]).lsn) = true
        rw [beq_iff_eq, h.1]; omega
theorem find_at {s : S} (h : chain s.start s.recs s.stop) {i : Nat} (hi : i < s.recs.length) : find s (s.recs[i]).lsn = some s.recs[i] := (chain_at h i hi).2.2
theorem read_at {s : S} (h : chain s.start s.recs s.stop) {i : Nat} (hi : i < s.recs.length) : readR s (s.recs[i]).lsn = (s.recs[i], (s.recs[i]).lsn + size s.recs[i], 0) := by
  unfold readR; rw [find_at h hi]
/-- What a log is always. -/
structure Good (s : S) : Prop where
  chain : chain s.start s.recs s.stop
  low : s.start ≤ s.flushed
  high : s.flushed ≤ s.stop
  ok : ∀ x ∈ s.recs, Lr.May x ∧ Lr.Ok x
theorem good_fresh (a c : Nat) : Good (fresh a c) := ⟨rfl, Nat.le_refl _, Nat.le_refl _, fun x hx => by cases hx⟩

/-- The end of a transaction's record. -/
def dn (t : Nat) : Lr.R := ⟨4, 0, 0, t, 0, 0, [], [], [], 0, 0, false, 0, [], []⟩
theorem dn_may {s : S} {t : Nat} (h : t ≠ 0) : Lr.May (stamp s (dn t)) := ⟨Or.inr (Or.inr (Or.inr (Or.inl ⟨rfl, h⟩))), rfl⟩
theorem dn_size (s : S) (t : Nat) : size (stamp s (dn t)) = 27 := by
  unfold size
  rw [Lr.form_length]
  show 19 + (Cod.le 8 t).length = 27
  rw [Cod.le_length]
theorem dn_few (t : Nat) : Lr.Few (dn t) := ⟨Nat.zero_le _, Nat.zero_le _, Nat.zero_le _, Nat.zero_le _, Nat.zero_le _⟩
theorem dn_ok {t : Nat} (h : t < 18446744073709551616) : Lr.Ok (dn t) := by
  refine ⟨(show (-9223372036854775808 : Int) ≤ 4 ∧ (4 : Int) < 9223372036854775808 by decide), (show 0 < 18446744073709551616 by decide), (show 0 < 4294967296 by decide), h, (show 0 < 4294967296 by decide), (show 0 < 65536 by decide), ?_, ?_, ?_, (show 0 < 18446744073709551616 by decide), (show 0 < 18446744073709551616 by decide), (show 0 < 18446744073709551616 by decide), ?_, ?_⟩ <;> intro b hb <;> cases hb
/-- A change of n noughts, or of n bytes at a page. -/
def wr (p : Nat) (b : List Nat) : Lr.R := ⟨1, 0, 0, 0, p, 0, b, b, [], 0, 0, false, 0, [], []⟩
theorem wr_may {s : S} {p : Nat} {b : List Nat} (h1 : 1 ≤ b.length) (h2 : b.length ≤ 500) : Lr.May (stamp s (wr p b)) := ⟨Or.inl ⟨rfl, rfl, h1, by show 0 + b.length ≤ 500; omega⟩, rfl⟩
theorem uv_short {n : Nat} (h : n < 128) : (Cod.uv n).length = 1 := by
  rw [Cod.uv_small h]; rfl
theorem uv_long {n : Nat} (h1 : 128 ≤ n) (h2 : n < 16384) : (Cod.uv n).length = 2 := by
  rw [Cod.uv_big (by omega), Cod.uv_small (by omega)]; rfl
theorem wr_size (s : S) (p : Nat) (b : List Nat) : size (stamp s (wr p b)) = 25 + 2 * ((Cod.uv b.length).length + b.length) := by
  unfold size
  rw [Lr.form_length]
  show 19 + (Cod.le 4 p ++ (Cod.le 2 0 ++ (Lr.text b ++ Lr.text b))).length = _
  unfold Lr.text
  simp only [List.length_append, Cod.le_length]
  omega
theorem wr_few {p : Nat} {b : List Nat} (h : b.length ≤ 6000) : Lr.Few (wr p b) := ⟨h, h, Nat.zero_le _, Nat.zero_le _, Nat.zero_le _⟩
theorem wr_ok {p : Nat} {b : List Nat} (h : p < 4294967296) (hb : ∀ x ∈ b, x < 256) : Lr.Ok (wr p b) := by
  refine ⟨(show (-9223372036854775808 : Int) ≤ 1 ∧ (1 : Int) < 9223372036854775808 by decide), (show 0 < 18446744073709551616 by decide), (show 0 < 4294967296 by decide), (show 0 < 18446744073709551616 by decide), h, (show 0 < 65536 by decide), hb, hb, ?_, (show 0 < 18446744073709551616 by decide), (show 0 < 18446744073709551616 by decide), (show 0 < 18446744073709551616 by decide), ?_, ?_⟩ <;> intro b hb <;> cases hb
theorem append_fine {s : S} {x : Lr.R} (hM : Lr.May (stamp s x)) (hl : (size (stamp s x) : Int) ≤ left s) : appendR s x = (app s x, s.stop, 0) := by
  unfold appendR
  rw [Lr.ifP_pos hM, if_pos hl]
theorem append_full {s : S} {x : Lr.R} (hM : Lr.May (stamp s x)) (hl : ¬ (size (stamp s x) : Int) ≤ left s) : appendR s x = (s, 0, 5) := by
  unfold appendR
  rw [Lr.ifP_pos hM, if_neg hl]
theorem stamp_ok {s : S} {x : Lr.R} (h : Lr.Ok x) (h1 : s.stop < 18446744073709551616) (h2 : s.epoch < 4294967296) : Lr.Ok (stamp s x) := ⟨h.kind, h1, h2, h.txn, h.page, h.off, h.old, h.new, h.undo, h.prev, h.next, h.stamp, h.opn, h.dirt⟩
theorem good_app {s : S} (h : Good s) {x : Lr.R} (hM : Lr.May (stamp s x)) (ho : Lr.Ok (stamp s x)) : Good (app s x) := by
  refine ⟨chain_snoc h.chain rfl, h.low, Nat.le_trans h.high (Nat.le_add_right _ _), fun y hy => ?_⟩
  rcases List.mem_append.1 hy with hy | hy
  · exact h.ok y hy
  · rw [List.mem_singleton.1 hy]; exact ⟨hM, ho⟩
theorem good_flush {s : S} (h : Good s) : Good (flush s) := ⟨h.chain, Nat.le_trans h.low h.high, Nat.le_refl _, h.ok⟩
end Go.Proofs.YtafpjcobagofcaaGreat.Wl

namespace Go.Proofs.YtafpjcobagofcaaGreat
open Go.RowKit

/-- Blocks that were there, or new ones. -/
def Grew (U U' : Nat → Prop) (w : World) : Prop := ∀ i, U' i → U i ∨ w.heap.size ≤ i
def I64' (z : Int) : Prop := -9223372036854775808 ≤ z ∧ z ≤ 9223372036854775807
def Both (U V : Nat → Prop) (i : Nat) : Prop := U i ∨ V i
/-- PD: a device in its blocks. PL: a log in its blocks, over a device. PM: what the log says of itself. Hd: what an opening finds on a device. -/
structure WlApi (PD : (Nat → Prop) → World → Nat → Dk.Dev → Prop) (PL : (Nat → Prop) → (Nat → Prop) → World → Nat → Nat → Dk.Dev → Wl.S → Prop) (PM : (Nat → Prop) → World → Nat → Wl.S → Prop) (Hd : Dk.Dev → Wl.S → Prop) : Prop where
  dkeep : ∀ {U T w w' B d}, PD U w B d → Touch T w w' → (∀ i, U i → ¬ T i) → PD U w' B d
  dlt : ∀ {U w B d}, PD U w B d → ∀ i, U i → i < w.heap.size
  dok : ∀ {U w B d}, PD U w B d → Dk.Ok d
  pkeep : ∀ {U V T w w' B L d s}, PL U V w B L d s → Touch T w w' → (∀ i, Both U V i → ¬ T i) → PL U V w' B L d s
  plt : ∀ {U V w B L d s}, PL U V w B L d s → ∀ i, Both U V i → i < w.heap.size
  dev : ∀ {U V w B L d s}, PL U V w B L d s → PD U w B d
  mem : ∀ {U V w B L d s}, PL U V w B L d s → PM V w L s
  mkeep : ∀ {V T w w' L s}, PM V w L s → Touch T w w' → (∀ i, V i → ¬ T i) → PM V w' L s
  away : ∀ {U V w B L d s}, PL U V w B L d s → ∀ i, U i → ¬ V i
  good : ∀ {V w L s}, PM V w L s → Wl.Good s
  hold : ∀ {U V w B L d s}, PL U V w B L d s → Hd d s
  hold_crash : ∀ {U V w B L d s} ps, PL U V w B L d s → Hd (Dk.crash d ps) s
  new : ∀ (n : Nat) w, 1 ≤ n → n ≤ 65536 → Calls Tryz.prog 7 #[.int .i64 n, .int .i64 n] w fun e w' =>
    ∃ B U, e = .returned (.tuple #[.pointer (some ⟨B, 0, none⟩), .int .i64 0]) ∧ PD U w' B (Dk.fresh n n) ∧ (∀ i, U i → w.heap.size ≤ i) ∧ Below w.heap.size w w'
  arm : ∀ {U V w B L d s} (n : Int), PL U V w B L d s → Calls Tryz.prog 21 #[.pointer (some ⟨B, 0, none⟩), .int .i64 n] w fun e w' =>
    e = .returned (.int .i64 ((Dk.arm d n).2 : Nat)) ∧ ∃ U', PL U' V w' B L (Dk.arm d n).1 s ∧ Touch U w w' ∧ Grew U U' w
  crash : ∀ {U w B d} v ps, PD U w B d → Bts w v ps → (0 < ps.length → ∀ g, v.ownBlock = some g → ¬ U g) → Calls Tryz.prog 22 #[.pointer (some ⟨B, 0, none⟩), v] w fun e w' =>
    e = .returned (.int .i64 0) ∧ ∃ U', PD U' w' B (Dk.crash d ps) ∧ Touch U w w' ∧ Grew U U' w
  make : ∀ {U w B n} (a c : Int), PD U w B (Dk.fresh n n) → Wl.Calm n (Dk.fresh n n) → I64' a → I64' c → Calls Tryz.prog 8 #[.pointer (some ⟨B, 0, none⟩), .int .i64 a, .int .i64 c] w fun e w' =>
    (Wl.Fits n a c → ∃ L U' V' d', e = .returned (.tuple #[.pointer (some ⟨L, 0, none⟩), .int .i64 0]) ∧ PL U' V' w' B L d' (Wl.fresh a.toNat c.toNat) ∧ Wl.Calm n d' ∧ Touch U w w' ∧ Grew U U' w ∧ (∀ i, V' i → w.heap.size ≤ i)) ∧
    (¬ Wl.Fits n a c → e = .returned (.tuple #[.pointer none, .int .i64 2]) ∧ ∃ U' d', PD U' w' B d' ∧ Wl.Calm n d' ∧ Touch U w w' ∧ Grew U U' w)
  open_ : ∀ {U w B d n s} , PD U w B d → Wl.Calm n d → Wl.Fits n s.at_ s.count → Hd d s → s.epoch ≤ 1000000 → s.stop ≤ 1000000000000 → Calls Tryz.prog 9 #[.pointer (some ⟨B, 0, none⟩), .int .i64 s.at_, .int .i64 s.count] w fun e w' =>
    ∃ k L U' V' d', k ≤ s.recs.length ∧ s.flushed ≤ Wl.placeOf s k ∧ e = .returned (.tuple #[.pointer (some ⟨L, 0, none⟩), .int .i64 0]) ∧ PL U' V' w' B L d' (Wl.cut s k) ∧ Wl.Calm n d' ∧ Touch U w w' ∧ Grew U U' w ∧ (∀ i, V' i → w.heap.size ≤ i)
  open_bad : ∀ {U w B d n} (a c : Int), PD U w B d → Wl.Calm n d → I64' a → I64' c → ¬ Wl.Fits n a c → Calls Tryz.prog 9 #[.pointer (some ⟨B, 0, none⟩), .int .i64 a, .int .i64 c] w fun e w' => e = .returned (.tuple #[.pointer none, .int .i64 2]) ∧ ∃ U' d', PD U' w' B d' ∧ Wl.Calm n d' ∧ Touch U w w' ∧ Grew U U' w
  make_nil : ∀ (a c : Int) w, Calls Tryz.prog 8 #[.pointer none, .int .i64 a, .int .i64 c] w fun e w' => e = .returned (.tuple #[.pointer none, .int .i64 1]) ∧ Below w.heap.size w w'
  open_nil : ∀ (a c : Int) w, Calls Tryz.prog 9 #[.pointer none, .int .i64 a, .int .i64 c] w fun e w' => e = .returned (.tuple #[.pointer none, .int .i64 1]) ∧ Below w.heap.size w w'
  append : ∀ {U V w B L d s} (x : Lr.R) (o n u c t : Value), PL U V w B L d s → RecAt w x o n u c t → Lr.Few x → s.epoch ≤ 1000000 → s.stop ≤ 1000000000000 → Calls Tryz.prog 10 #[.pointer (some ⟨L, 0, none⟩), RecV x o n u c t] w fun e w' =>
    e = .returned (.tuple #[.int .u64 ((Wl.appendR s x).2.1 : Nat), .int .i64 ((Wl.appendR s x).2.2 : Nat)]) ∧ ∃ V', PL U V' w' B L d (Wl.appendR s x).1 ∧ Touch V w w' ∧ Grew V V' w
  append_nil : ∀ (x : Lr.R) (o n u c t : Value) w, RecAt w x o n u c t → Lr.Few x → Calls Tryz.prog 10 #[.pointer none, RecV x o n u c t] w fun e w' => e = .returned (.tuple #[.int .u64 0, .int .i64 1]) ∧ Below w.heap.size w w'
  read : ∀ {U V w B L d n s} (p : Nat), PL U V w B L d s → Wl.Calm n d → p < 18446744073709551616 → s.stop ≤ 1000000000000 → Calls Tryz.prog 12 #[.pointer (some ⟨L, 0, none⟩), .int .u64 (p : Int)] w fun e w' =>
    ∃ o n u c t, e = .returned (.tuple #[RecV (Wl.readR s p).1 o n u c t, .int .u64 ((Wl.readR s p).2.1 : Nat), .int .i64 ((Wl.readR s p).2.2 : Nat)]) ∧ RecOwn w.heap.size w' (Wl.readR s p).1 o n u c t ∧ Below w.heap.size w w'
  read_nil : ∀ (p : Nat) w, Calls Tryz.prog 12 #[.pointer none, .int .u64 (p : Int)] w fun e w' => e = .returned (.tuple #[RecV Lr.zero (.slice none 0 0) (.slice none 0 0) (.slice none 0 0) (.slice none 0 0) (.slice none 0 0), .int .u64 0, .int .i64 1]) ∧ Below w.heap.size w w'
  flush : ∀ {U V w B L d n s}, PL U V w B L d s → Wl.Near n d → s.stop ≤ 1000000000000 → Calls Tryz.prog 15 #[.pointer (some ⟨L, 0, none⟩)] w fun e w' =>
    (∃ U' V' d', e = .returned (.int .i64 0) ∧ PL U' V' w' B L d' (Wl.flush s) ∧ Wl.Near n d' ∧ (Wl.Calm n d → Wl.Calm n d') ∧ Touch (Both U V) w w' ∧ Grew U U' w ∧ Grew V V' w) ∨
    (¬ Wl.Calm n d ∧ ∃ k : Nat, ∃ U' d', e = .returned (.int .i64 (k : Int)) ∧ k ≠ 0 ∧ PD U' w' B d' ∧ Wl.Near n d' ∧ (∀ ps, Hd (Dk.crash d' ps) s) ∧ Touch (Both U V) w w' ∧ Grew U U' w)
  flush_nil : ∀ w, Calls Tryz.prog 15 #[.pointer none] w fun e w' => e = .returned (.int .i64 1) ∧ Below w.heap.size w w'
  master : ∀ {U V w B L d n s} (a p : Nat), PL U V w B L d s → Wl.Calm n d → Wl.MayMaster s a p → s.stop ≤ 1000000000000 → Calls Tryz.prog 16 #[.pointer (some ⟨L, 0, none⟩), .int .u64 (a : Int), .int .u64 (p : Int)] w fun e w' =>
    e = .returned (.int .i64 0) ∧ ∃ U' V' d', PL U' V' w' B L d' (Wl.master s a p) ∧ Wl.Calm n d' ∧ Touch (Both U V) w w' ∧ Grew U U' w ∧ Grew V V' w
  master_nil : ∀ (a p : Nat) w, Calls Tryz.prog 16 #[.pointer none, .int .u64 (a : Int), .int .u64 (p : Int)] w fun e w' => e = .returned (.int .i64 1) ∧ Below w.heap.size w w'
  start : ∀ {V w L s}, PM V w L s → Calls Tryz.prog 17 #[.pointer (some ⟨L, 0, none⟩)] w fun e w' => e = .returned (.int .u64 (s.start : Int)) ∧ Below w.heap.size w w'
  end_ : ∀ {V w L s}, PM V w L s → s.stop ≤ 1000000000000 → Calls Tryz.prog 14 #[.pointer (some ⟨L, 0, none⟩)] w fun e w' => e = .returned (.int .u64 (s.stop : Int)) ∧ Below w.heap.size w w'
  epoch : ∀ {V w L s}, PM V w L s → Calls Tryz.prog 13 #[.pointer (some ⟨L, 0, none⟩)] w fun e w' => e = .returned (.int .u32 (s.epoch : Int)) ∧ Below w.heap.size w w'
  left : ∀ {V w L s}, PM V w L s → s.stop ≤ 1000000000000 → s.count ≤ 8192 → Calls Tryz.prog 20 #[.pointer (some ⟨L, 0, none⟩)] w fun e w' => e = .returned (.int .i64 (Wl.left s)) ∧ Below w.heap.size w w'
  start_nil : ∀ w, Calls Tryz.prog 17 #[.pointer none] w fun e w' => e = .returned (.int .u64 0) ∧ Below w.heap.size w w'
  end_nil : ∀ w, Calls Tryz.prog 14 #[.pointer none] w fun e w' => e = .returned (.int .u64 0) ∧ Below w.heap.size w w'
  flushed_nil : ∀ w, Calls Tryz.prog 18 #[.pointer none] w fun e w' => e = .returned (.int .u64 0) ∧ Below w.heap.size w w'
  point_nil : ∀ w, Calls Tryz.prog 19 #[.pointer none] w fun e w' => e = .returned (.int .u64 0) ∧ Below w.heap.size w w'
  epoch_nil : ∀ w, Calls Tryz.prog 13 #[.pointer none] w fun e w' => e = .returned (.int .u32 0) ∧ Below w.heap.size w w'
  left_nil : ∀ w, Calls Tryz.prog 20 #[.pointer none] w fun e w' => e = .returned (.int .i64 0) ∧ Below w.heap.size w w'

section
variable {PD : (Nat → Prop) → World → Nat → Dk.Dev → Prop} {PL : (Nat → Prop) → (Nat → Prop) → World → Nat → Nat → Dk.Dev → Wl.S → Prop} {PM : (Nat → Prop) → World → Nat → Wl.S → Prop} {Hd : Dk.Dev → Wl.S → Prop}
variable {U U' V V' : Nat → Prop} {w w' : World} {B L base : Nat} {d : Dk.Dev} {s : Wl.S}
theorem WlApi.below (A : WlApi PD PL PM Hd) (h : PL U V w B L d s) (hb : Below w.heap.size w w') : PL U V w' B L d s :=
  A.pkeep h (.of_below (S := fun i => w.heap.size ≤ i) hb fun _ _ h => h) fun i hi => by have := A.plt h i hi; omega
theorem WlApi.dbelow (A : WlApi PD PL PM Hd) (h : PD U w B d) (hb : Below w.heap.size w w') : PD U w' B d :=
  A.dkeep h (.of_below (S := fun i => w.heap.size ≤ i) hb fun _ _ h => h) fun i hi => by have := A.dlt h i hi; omega
/-- All that a law made lies from base on. -/
def From (base : Nat) (U : Nat → Prop) : Prop := ∀ i, U i → base ≤ i
theorem Grew.from (h : Grew U U' w) (hf : From base U) (hb : base ≤ w.heap.size) : From base U' := fun i hi => by
  rcases h i hi with h1 | h1
  · exact hf i h1
  · omega
theorem from_new (h : ∀ i, U i → w.heap.size ≤ i) (hb : base ≤ w.heap.size) : From base U := fun i hi => Nat.le_trans hb (h i hi)
theorem from_both (h : From base U) (k : From base V) : From base (Both U V) := fun i hi => hi.elim (h i) (k i)
theorem Touch.under (h : Touch U w w') (hf : From base U) (hb : base ≤ w.heap.size) : Below base w w' := h.below hf hb
end
end Go.Proofs.YtafpjcobagofcaaGreat

namespace Go.Proofs.YtafpjcobagofcaaGreat
open Go.RowKit

namespace Wl
def zeros (n : Nat) : List Nat := List.replicate n 0
theorem zeros_length (n : Nat) : (zeros n).length = n := List.length_replicate ..
theorem zeros_lt (n : Nat) : ∀ x ∈ zeros n, x < 256 := fun x hx => by rw [List.eq_of_mem_replicate hx]; decide
/-- int(uint64(a) % n). -/
def atN (n : Nat) (a : Int) : Nat := (a % 18446744073709551616 % (n : Int)).toNat
theorem atN_lt {n : Nat} (hn : 0 < n) (a : Int) : atN n a < n := by
  unfold atN
  have h1 := Int.emod_nonneg (a % 18446744073709551616) (show (n : Int) ≠ 0 by omega)
  have h2 := Int.emod_lt_of_pos (a % 18446744073709551616) (show (0 : Int) < n by omega)
  omega
theorem atN_eq {n : Nat} (hn : 0 < n) (a : Int) : (IntKind.u64.wrap a).tmod (n : Int) = (atN n a : Nat) := by
  have e : IntKind.u64.wrap a = a % 18446744073709551616 := by simp [IntKind.wrap, IntKind.bits, IntKind.signed]
  have h0 := Int.emod_nonneg a (show (18446744073709551616 : Int) ≠ 0 by decide)
  have h1 := Int.emod_nonneg (a % 18446744073709551616) (show (n : Int) ≠ 0 by omega)
  unfold atN
  rw [e, Int.tmod_eq_emod_of_nonneg h0]
  omega
end Wl
theorem wb_one (z : Value) (n : Nat) : madeCells #[z] n = (List.replicate n z).toArray := by
  apply Array.ext'
  rw [toList_madeCells_one]
theorem wb_run (n : Nat) (hn : n ≤ 65536) (W : World) : (Instr.makeSlice 36 (.int .i64 (n : Int)) (.int .i64 (n : Int))).run Tryz.prog W = .ok (.slice (some ⟨W.heap.size, 0, none⟩) n n) (W.alloc (.cells (bytesV (Wl.zeros n)).toArray 5)) := by
  obtain ⟨i0, hi, hz0, hz1, hz2⟩ := info_parts info5
  have h := run_makeSlice (P := Tryz.prog) W 36 5 i0 _ Tryz.underlying36 hi hz0 .i64 .i64 n n (by omega) (Int.le_refl _) (by rw [hz1]; omega) (by rw [hz2]; omega) (by omega)
  rw [Int.toNat_natCast, hz1, Nat.mul_one] at h
  rw [h]
  have e : madeCells #[Value.int .u8 0] n = (bytesV (Wl.zeros n)).toArray := by
    rw [show (bytesV (Wl.zeros n)).toArray = (List.replicate n (Value.int .u8 0)).toArray by unfold Wl.zeros bytesV; rw [List.map_replicate]; rfl]
    exact wb_one _ n
  congr 3
theorem wb_own (n : Nat) (hn : n ≤ 65536) (W : World) : Own W.heap.size (W.alloc (.cells (bytesV (Wl.zeros n)).toArray 5)) (.slice (some ⟨W.heap.size, 0, none⟩) n n) (Wl.zeros n) := by
  have hl := Wl.zeros_length n
  refine ⟨⟨by simp [bytesV], Or.inr ⟨W.heap.size, n, (bytesV (Wl.zeros n)).toArray, by rw [hl], Nat.le_refl _, heap_alloc_last _ _, by rw [hl]; exact Nat.le_refl _, by unfold maxLen; omega, ?_, ?_⟩⟩, Wl.zeros_lt n, by rw [hl]; omega⟩
  · simp [bytesV, hl]
  · simp only [Nat.mul_one]
    rw [List.take_of_length_le (by simp [bytesV])]
theorem i64_of {x : Int} (h : Ints.Okk x) : I64' x := by
  have h1 : IntKind.i64.min = -9223372036854775808 := rfl
  have h2 : IntKind.i64.max = 9223372036854775807 := rfl
  unfold Ints.Okk at h
  simp only [Lit.wf, Bool.and_eq_true, decide_eq_true_eq] at h
  unfold I64'
  omega
end Go.Proofs.YtafpjcobagofcaaGreat

namespace Go.Proofs.YtafpjcobagofcaaGreat.Wl
open Go.Proofs.YtafpjcobagofcaaGreat

/-- Behind k rounds m records are held. -/
structure Ring (k m : Nat) (s : S) : Prop where
  good : Good s
  count : s.count = 64
  at0 : s.at_ = 0
  epoch : s.epoch = 1
  flushed : s.flushed = s.stop
  len : s.recs.length = m
  few : m ≤ k
  page : ∀ j (h : j < s.recs.length), (s.recs[j]).page = k - m + j
  sizes : ∀ x ∈ s.recs, size x ≤ 829
  low : s.stop ≤ 52 + 829 * k
def places (s : S) : List Nat := s.recs.map (fun x => x.lsn)
theorem places_length (s : S) : (places s).length = s.recs.length := by simp [places]
theorem places_getD {s : S} {i : Nat} (hi : i < s.recs.length) : (places s).getD i 0 = (s.recs[i]).lsn := by
  unfold places
  rw [List.getD_eq_getElem?_getD, List.getElem?_map, List.getElem?_eq_getElem hi]; rfl
theorem chain_bound : ∀ {l : List Lr.R} {p q : Nat}, chain p l q → (∀ x ∈ l, size x ≤ 829) → q ≤ p + 829 * l.length
  | [], p, q, h, _ => by
    have : p = q := h
    omega
  | x :: l, p, q, h, hs => by
    have h1 := chain_bound h.2 (fun y hy => hs y (List.mem_cons_of_mem _ hy))
    have h2 := hs x (List.mem_cons_self ..)
    simp only [List.length_cons]
    omega
theorem Ring.room {k m : Nat} {s : S} (h : Ring k m s) (hm : m ≤ 5) : (829 : Int) ≤ left s := by
  have h1 := chain_bound h.good.chain h.sizes
  have h2 := h.len
  have h3 := h.count
  unfold left
  rw [h3]
  omega
theorem ring_fresh : Ring 0 0 (fresh 0 64) := ⟨good_fresh 0 64, rfl, rfl, rfl, rfl, rfl, Nat.le_refl _, fun j h => absurd h (Nat.not_lt_zero j), fun x hx => (by cases hx), Nat.le_refl _⟩
/-- One more, which lasts. -/
theorem Ring.next {k m : Nat} {s : S} (h : Ring k m s) {x : Lr.R} (hM : Lr.May (stamp s x)) (ho : Lr.Ok (stamp s x)) (hp : x.page = k) (hs : size (stamp s x) ≤ 829) : Ring (k + 1) (m + 1) (flush (app s x)) := by
  have hl := h.len
  refine ⟨good_flush (good_app h.good hM ho), h.count, h.at0, h.epoch, rfl, ?_, Nat.succ_le_succ h.few, ?_, ?_, ?_⟩
  · show (s.recs ++ [stamp s x]).length = m + 1
    rw [List.length_append, hl]; rfl
  · intro j hj
    have hj2 : j < (s.recs ++ [stamp s x]).length := hj
    have hj3 : j < m + 1 := by simpa [hl] using hj2
    show ((s.recs ++ [stamp s x])[j]).page = k + 1 - (m + 1) + j
    by_cases e : j < m
    · rw [List.getElem_append_left (by omega), h.page j (by omega)]
      omega
    · obtain rfl : j = m := by omega
      rw [List.getElem_append_right (by omega)]
      have hf := h.few
      simp only [hl, Nat.sub_self, List.getElem_cons_zero]
      show x.page = _
      omega
  · intro y hy
    rcases List.mem_append.1 (show y ∈ s.recs ++ [stamp s x] from hy) with hy | hy
    · exact h.sizes y hy
    · rw [List.mem_singleton.1 hy]; exact hs
  · show s.stop + size (stamp s x) ≤ _
    have := h.low
    omega
theorem chain_rest {p q : Nat} {x : Lr.R} {l : List Lr.R} (h : chain p (x :: l) q) : (x :: l).filter (fun y => decide (p + size x ≤ y.lsn)) = l := by
  have h1 := size_pos x
  rw [List.filter_cons_of_neg (by rw [decide_eq_true_eq, h.1]; omega)]
  rw [List.filter_eq_self.2]
  intro y hy
  obtain ⟨i, hi, rfl⟩ := List.getElem_of_mem hy
  have := (chain_at h.2 i hi).1
  simpa using this
/-- The first one is given up. -/
theorem Ring.drop {k m : Nat} {s : S} (h : Ring k (m + 2) s) : ∃ a, (places s).getD 1 0 = a ∧ MayMaster s a 0 ∧ Ring k (m + 1) (master s a 0) ∧ (places s) = (places s).headD 0 :: places (master s a 0) ∧ a = (places (master s a 0)).getD 0 0 ∧ a ≤ s.stop := by
  have hl := h.len
  obtain ⟨recs, start, stop, fl, pt, ep, at_, ct⟩ := s
  have hl' : recs.length = m + 2 := hl
  match recs, hl' with
  | x :: y :: l, hl' =>
    have hc : chain start (x :: y :: l) stop := h.good.chain
    have hy : y.lsn = start + size x := hc.2.1
    have hr := chain_rest hc
    have hle := chain_le hc.2.2
    have hyl : y.lsn + size y ≤ stop := by rw [hy]; exact hle
    refine ⟨y.lsn, rfl, ⟨?_, ?_, Or.inr ⟨y, List.mem_cons_of_mem _ (List.mem_cons_self ..), rfl⟩, Or.inl rfl⟩, ?_, ?_, ?_, ?_⟩
    · show start ≤ y.lsn; omega
    · show y.lsn ≤ fl
      have : fl = stop := h.flushed
      omega
    · have e : (master ⟨x :: y :: l, start, stop, fl, pt, ep, at_, ct⟩ y.lsn 0) = ⟨y :: l, y.lsn, stop, fl, 0, ep, at_, ct⟩ := by
        unfold master
        simp only
        rw [hy, hr]
      rw [e]
      refine ⟨⟨?_, ?_, ?_, fun z hz => h.good.ok z (List.mem_cons_of_mem _ hz)⟩, h.count, h.at0, h.epoch, h.flushed, ?_, ?_, ?_, fun z hz => h.sizes z (List.mem_cons_of_mem _ hz), h.low⟩
      · show chain y.lsn (y :: l) stop
        rw [hy]; exact hc.2
      · show y.lsn ≤ fl
        have : fl = stop := h.flushed
        omega
      · show fl ≤ stop; exact h.good.high
      · show (y :: l).length = m + 1
        simpa using hl'
      · have := h.few; omega
      · intro j hj
        have h1 := h.page (j + 1) (by simpa using hj)
        have h2 : ((x :: y :: l)[j + 1]'(by simpa using hj)).page = k - (m + 2) + (j + 1) := h1
        show ((y :: l)[j]).page = k - (m + 1) + j
        have h3 := h.few
        rw [show ((y :: l)[j]) = ((x :: y :: l)[j + 1]'(by simpa using hj)) from rfl, h2]
        omega
    · unfold places master
      simp only
      rw [hy, hr]
      rfl
    · unfold places master
      simp only
      rw [hy, hr]
      simp [hy]
    · show y.lsn ≤ stop; omega
theorem Ring.get {k m : Nat} {s : S} (h : Ring k m s) {j : Nat} (hj : j < m) : ∃ r p n, (places s).getD j 0 = p ∧ readR s p = (r, n, 0) ∧ r.page = k - m + j ∧ r.lsn = p ∧ p ≤ s.stop := by
  have hl := h.len
  have hj' : j < s.recs.length := by omega
  refine ⟨_, _, _, places_getD hj', read_at h.good.chain hj', h.page j hj', rfl, ?_⟩
  have := (chain_at h.good.chain j hj').2.1
  omega
/-- What is found of a log all of which lasts is all of it. -/
theorem cut_all {s : S} (h : Good s) (hf : s.flushed = s.stop) {k : Nat} (hk : s.flushed ≤ placeOf s k) : placeOf s k = s.stop := by
  unfold placeOf at *
  cases e : s.recs[k]? with
  | none => rfl
  | some x =>
    rw [e] at hk
    simp only at hk ⊢
    obtain ⟨hi, hx⟩ := List.getElem?_eq_some_iff.1 e
    have h1 := (chain_at h.chain k hi).2.1
    have h2 := size_pos (s.recs[k])
    rw [hx] at h1 h2
    omega
end Go.Proofs.YtafpjcobagofcaaGreat.Wl

namespace Go.Proofs.YtafpjcobagofcaaGreat.Wl
open Go.Proofs.YtafpjcobagofcaaGreat

/-- n records, each of 27 bytes; the one with number j is of the transaction f j. -/
structure Rw (f : Nat → Nat) (n : Nat) (s : S) : Prop where
  good : Good s
  start : s.start = 52
  count : s.count = 60
  at0 : s.at_ = 0
  len : s.recs.length = n
  each : ∀ j (h : j < s.recs.length), (s.recs[j]).lsn = 52 + 27 * j ∧ (s.recs[j]).txn = f j ∧ size s.recs[j] = 27
  stop : s.stop = 52 + 27 * n
theorem rw_fresh (f : Nat → Nat) : Rw f 0 (fresh 0 60) := ⟨good_fresh 0 60, rfl, rfl, rfl, rfl, fun j h => absurd h (Nat.not_lt_zero j), rfl⟩
section
variable {f g : Nat → Nat} {n : Nat} {s : S}
theorem Rw.congr (h : Rw f n s) (e : ∀ j, j < n → f j = g j) : Rw g n s :=
  ⟨h.good, h.start, h.count, h.at0, h.len, fun j hj => by
    obtain ⟨h1, h2, h3⟩ := h.each j hj
    exact ⟨h1, h2.trans (e j (by rw [← h.len]; exact hj)), h3⟩, h.stop⟩
theorem Rw.flush (h : Rw f n s) : Rw f n (flush s) := ⟨good_flush h.good, h.start, h.count, h.at0, h.len, h.each, h.stop⟩
theorem Rw.room (h : Rw f n s) (hn : n ≤ 200) : (27 : Int) ≤ left s := by
  unfold left
  rw [h.start, h.count, h.stop]
  omega
theorem Rw.fine (h : Rw f n s) (hn : n ≤ 200) {t : Nat} (ht : t ≠ 0) : appendR s (dn t) = (app s (dn t), 52 + 27 * n, 0) := by
  rw [append_fine (dn_may ht) (by rw [dn_size]; exact h.room hn), h.stop]
theorem Rw.next (h : Rw f n s) (hn : n ≤ 200) (he : s.epoch < 4294967296) {t : Nat} (ht : t ≠ 0) (ht2 : t < 18446744073709551616) (hf : f n = t) : Rw f (n + 1) (app s (dn t)) := by
  have hl := h.len
  refine ⟨good_app h.good (dn_may ht) (stamp_ok (dn_ok ht2) (by rw [h.stop]; omega) he), h.start, h.count, h.at0, ?_, ?_, ?_⟩
  · show (s.recs ++ [stamp s (dn t)]).length = n + 1
    rw [List.length_append, hl]; rfl
  · intro j hj
    have hj2 : j < (s.recs ++ [stamp s (dn t)]).length := hj
    show ((s.recs ++ [stamp s (dn t)])[j]).lsn = _ ∧ ((s.recs ++ [stamp s (dn t)])[j]).txn = _ ∧ size (s.recs ++ [stamp s (dn t)])[j] = 27
    by_cases e : j < n
    · rw [List.getElem_append_left (by omega)]
      exact h.each j (by omega)
    · obtain rfl : j = n := by
        rw [List.length_append, hl] at hj2
        simp at hj2; omega
      rw [List.getElem_append_right (by omega)]
      simp only [hl, Nat.sub_self, List.getElem_cons_zero]
      exact ⟨h.stop, hf.symm, dn_size s t⟩
  · show s.stop + size (stamp s (dn t)) = _
    rw [dn_size, h.stop]; omega
theorem Rw.place (h : Rw f n s) {k : Nat} (hk : k ≤ n) : placeOf s k = 52 + 27 * k := by
  unfold placeOf
  by_cases e : k < n
  · have hl := h.len
    have hk' : k < s.recs.length := by omega
    rw [show s.recs[k]? = some s.recs[k] from List.getElem?_eq_getElem hk']
    exact (h.each k hk').1
  · obtain rfl : k = n := by omega
    rw [show s.recs[k]? = none from List.getElem?_eq_none (by rw [h.len]; exact Nat.le_refl _)]
    exact h.stop
theorem Rw.cut (h : Rw f n s) {k : Nat} (hk : k ≤ n) (hg : Good (cut s k)) : Rw f k (cut s k) := by
  have hl := h.len
  refine ⟨hg, h.start, h.count, h.at0, ?_, ?_, h.place hk⟩
  · show (s.recs.take k).length = k
    rw [List.length_take]; omega
  · intro j hj
    have hj2 : j < (s.recs.take k).length := hj
    have hj3 : j < s.recs.length := by rw [List.length_take] at hj2; omega
    have e : (Wl.cut s k).recs[j] = s.recs[j] := List.getElem_take (h := hj2)
    obtain ⟨e1, e2, e3⟩ := h.each j hj3
    exact ⟨(congrArg Lr.R.lsn e).trans e1, (congrArg Lr.R.txn e).trans e2, (congrArg size e).trans e3⟩
theorem Rw.get (h : Rw f n s) {j : Nat} (hj : j < n) : ∃ r, readR s (52 + 27 * j) = (r, 52 + 27 * (j + 1), 0) ∧ r.txn = f j := by
  have hl := h.len
  have hj' : j < s.recs.length := by omega
  obtain ⟨h1, h2, h3⟩ := h.each j hj'
  have hr := read_at h.good.chain hj'
  rw [h1, h3] at hr
  exact ⟨_, by rw [hr, show 52 + 27 * j + 27 = 52 + 27 * (j + 1) by omega], h2⟩
end
/-- What is there behind the crash: the first ones, then those of the second time. -/
def after (k : Nat) (j : Nat) : Nat := if j < k then j + 1 else 1000 + (j - k)
theorem after_low {k j : Nat} (h : j < k) : j + 1 = after k j := by unfold after; rw [if_pos h]
theorem after_high {k j : Nat} (h : ¬ j < k) : after k j = 1000 + (j - k) := by unfold after; rw [if_neg h]
end Go.Proofs.YtafpjcobagofcaaGreat.Wl
