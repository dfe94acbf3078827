/- What a question to both readers answers: the same, and both go on alike. Conditions: both readers stand before the same bytes with the same error, in blocks of their own. -/
import Derived.Test.YtpakohlniaiclaaCodeKnown
import Derived.Deep.RegionWith
import Derived.Outline
namespace Go.Proofs.Ytpakohlniaiclaa
open Go.RowKit

theorem rdNum_lt (c : Nat) (l : List Nat) (e : Nat) (hs : ∀ x ∈ l, x < 256) : (Cod.rdNum c l e).1 < 256 ^ c := by
  have hp : 0 < 256 ^ c := Nat.pow_pos (by decide)
  unfold Cod.rdNum
  split
  · exact hp
  split
  · exact hp
  · next h2 =>
    have h := Cod.num_lt (l.take c) (fun x hx => hs x (List.mem_of_mem_take hx))
    rwa [List.length_take, Nat.min_eq_left (by omega)] at h

theorem Rd.small {T : TypeId} {lo : Nat → Prop} {B e : Nat} {w : World} {l : List Nat} (h : Rd T lo w B l e) : ∀ x ∈ l, x < 256 := by
  obtain ⟨s, _, hB, _⟩ := h; exact hB.small

theorem below_grown2 {B0 B : Nat} {a b c : World} (h : Below B0 a b) (k : b.grownBy c (some B)) (h0 : B0 ≤ a.heap.size) (hB : B0 ≤ B) : Below B0 a c := below_grown h k (Nat.le_trans h0 h.size) hB

/-- The two readers' blocks do not meet. -/
structure Apart (base : Nat) (lo lo2 : Nat → Prop) (B B2 : Nat) : Prop where
  ne : B ≠ B2
  a : ¬ lo B2
  b : ¬ lo2 B
  c : ∀ b, lo b → b < B
  d : ∀ b, lo2 b → b < B2
  e : base ≤ B
  f : base ≤ B2

def Both (lo lo2 : Nat → Prop) (B B2 : Nat) (l : List Nat) (e : Nat) (w : World) : Prop := Rd 59 lo w B l e ∧ Rd 43 lo2 w B2 l e

def Asked (base : Nat) (lo lo2 : Nat → Prop) (B B2 : Nat) (l : List Nat) (en : Nat) (w : World) (e : Ending) (w' : World) : Prop := e = .returned (.bool true) ∧ Both lo lo2 B B2 l en w' ∧ Below base w w'

set_option maxHeartbeats 800000 in
set_option maxRecDepth 20000 in
theorem ask0 (base : Nat) (lo lo2 : Nat → Prop) (B B2 e : Nat) (l : List Nat) (most : Int) (w : World) (hA : Apart base lo lo2 B B2) (h1 : Rd 59 lo w B l e) (h2 : Rd 43 lo2 w B2 l e) (hbase : base ≤ w.heap.size) :
    Calls Try.prog 20 #[.pointer (some ⟨B, 0, none⟩), .pointer (some ⟨B2, 0, none⟩), .agg #[.int .i64 0, .int .i64 most]] w fun en w' => Asked base lo lo2 B B2 (Cod.rdNum 1 l e).2.1 (Cod.rdNum 1 l e).2.2 w en w' := by
  have hal : Below w.heap.size w (w.alloc (.cells #[.int .i64 0, .int .i64 most] 46)) := (Below.refl _ _).alloc (Nat.le_refl _) _
  have H1 := Lib.hid (h1.below hal)
  have H2 := Lib.hid (h2.below hal)
  have HW := Lib.hid (hal.mono hbase)
  have HA := Lib.hid hA
  have hlt := rdNum_lt 1 l e h1.small
  clear hal h1 h2 hA
  go_enter Try.func20, Try.ntmps20
  go_wp2_with fail
  refine (U8_any _ _ _ _ _ H1.out).mono ?_
  rintro en w1 ⟨rfl, h1, hg⟩
  have H11 := Lib.hid h1
  have H21 := Lib.hid (H2.out.grown hg (fun g hg => by cases hg; exact ⟨HA.out.b, HA.out.ne⟩))
  have HW1 := Lib.hid (below_grown2 HW.out hg hbase HA.out.e)
  clear h1 hg
  obtain ⟨n, hn⟩ : ∃ n, n = (Cod.rdNum 1 l e).1 := ⟨_, rfl⟩
  rw [← hn] at hlt ⊢
  have HN := Lib.hid hn
  have hlt2 : n < 256 := hlt
  clear hn hlt
  go_wp2_with fail
  refine (refNum_any _ _ _ 1 _ _ H21.out (by decide) (by decide)).mono ?_
  rintro en w2 ⟨rfl, h2, hg⟩
  have HB2 := Lib.hid (show Both lo lo2 B B2 _ _ w2 from ⟨H11.out.grown hg (fun g hg => by cases hg; exact ⟨HA.out.a, Ne.symm HA.out.ne⟩), h2⟩)
  have HW2 := Lib.hid (below_grown2 HW1.out hg hbase HA.out.f)
  clear h2 hg
  rw [← HN.out]
  go_wp2_with fail
  go_ret
  exact ⟨rfl, HB2.out, HW2.out⟩

set_option maxHeartbeats 800000 in
set_option maxRecDepth 20000 in
theorem ask1 (base : Nat) (lo lo2 : Nat → Prop) (B B2 e : Nat) (l : List Nat) (most : Int) (w : World) (hA : Apart base lo lo2 B B2) (h1 : Rd 59 lo w B l e) (h2 : Rd 43 lo2 w B2 l e) (hbase : base ≤ w.heap.size) :
    Calls Try.prog 20 #[.pointer (some ⟨B, 0, none⟩), .pointer (some ⟨B2, 0, none⟩), .agg #[.int .i64 1, .int .i64 most]] w fun en w' => Asked base lo lo2 B B2 (Cod.rdNum 2 l e).2.1 (Cod.rdNum 2 l e).2.2 w en w' := by
  have hal : Below w.heap.size w (w.alloc (.cells #[.int .i64 1, .int .i64 most] 46)) := (Below.refl _ _).alloc (Nat.le_refl _) _
  have H1 := Lib.hid (h1.below hal)
  have H2 := Lib.hid (h2.below hal)
  have HW := Lib.hid (hal.mono hbase)
  have HA := Lib.hid hA
  have hlt := rdNum_lt 2 l e h1.small
  clear hal h1 h2 hA
  go_enter Try.func20, Try.ntmps20
  go_wp2_with fail
  refine (U16_any _ _ _ _ _ H1.out).mono ?_
  rintro en w1 ⟨rfl, h1, hg⟩
  have H11 := Lib.hid h1
  have H21 := Lib.hid (H2.out.grown hg (fun g hg => by cases hg; exact ⟨HA.out.b, HA.out.ne⟩))
  have HW1 := Lib.hid (below_grown2 HW.out hg hbase HA.out.e)
  clear h1 hg
  obtain ⟨n, hn⟩ : ∃ n, n = (Cod.rdNum 2 l e).1 := ⟨_, rfl⟩
  rw [← hn] at hlt ⊢
  have HN := Lib.hid hn
  have hlt2 : n < 65536 := hlt
  clear hn hlt
  go_wp2_with fail
  refine (refNum_any _ _ _ 2 _ _ H21.out (by decide) (by decide)).mono ?_
  rintro en w2 ⟨rfl, h2, hg⟩
  have HB2 := Lib.hid (show Both lo lo2 B B2 _ _ w2 from ⟨H11.out.grown hg (fun g hg => by cases hg; exact ⟨HA.out.a, Ne.symm HA.out.ne⟩), h2⟩)
  have HW2 := Lib.hid (below_grown2 HW1.out hg hbase HA.out.f)
  clear h2 hg
  rw [← HN.out]
  go_wp2_with fail
  go_ret
  exact ⟨rfl, HB2.out, HW2.out⟩

set_option maxHeartbeats 800000 in
set_option maxRecDepth 20000 in
theorem ask2 (base : Nat) (lo lo2 : Nat → Prop) (B B2 e : Nat) (l : List Nat) (most : Int) (w : World) (hA : Apart base lo lo2 B B2) (h1 : Rd 59 lo w B l e) (h2 : Rd 43 lo2 w B2 l e) (hbase : base ≤ w.heap.size) :
    Calls Try.prog 20 #[.pointer (some ⟨B, 0, none⟩), .pointer (some ⟨B2, 0, none⟩), .agg #[.int .i64 2, .int .i64 most]] w fun en w' => Asked base lo lo2 B B2 (Cod.rdNum 4 l e).2.1 (Cod.rdNum 4 l e).2.2 w en w' := by
  have hal : Below w.heap.size w (w.alloc (.cells #[.int .i64 2, .int .i64 most] 46)) := (Below.refl _ _).alloc (Nat.le_refl _) _
  have H1 := Lib.hid (h1.below hal)
  have H2 := Lib.hid (h2.below hal)
  have HW := Lib.hid (hal.mono hbase)
  have HA := Lib.hid hA
  have hlt := rdNum_lt 4 l e h1.small
  clear hal h1 h2 hA
  go_enter Try.func20, Try.ntmps20
  go_wp2_with fail
  refine (U32_any _ _ _ _ _ H1.out).mono ?_
  rintro en w1 ⟨rfl, h1, hg⟩
  have H11 := Lib.hid h1
  have H21 := Lib.hid (H2.out.grown hg (fun g hg => by cases hg; exact ⟨HA.out.b, HA.out.ne⟩))
  have HW1 := Lib.hid (below_grown2 HW.out hg hbase HA.out.e)
  clear h1 hg
  obtain ⟨n, hn⟩ : ∃ n, n = (Cod.rdNum 4 l e).1 := ⟨_, rfl⟩
  rw [← hn] at hlt ⊢
  have HN := Lib.hid hn
  have hlt2 : n < 4294967296 := hlt
  clear hn hlt
  go_wp2_with fail
  refine (refNum_any _ _ _ 4 _ _ H21.out (by decide) (by decide)).mono ?_
  rintro en w2 ⟨rfl, h2, hg⟩
  have HB2 := Lib.hid (show Both lo lo2 B B2 _ _ w2 from ⟨H11.out.grown hg (fun g hg => by cases hg; exact ⟨HA.out.a, Ne.symm HA.out.ne⟩), h2⟩)
  have HW2 := Lib.hid (below_grown2 HW1.out hg hbase HA.out.f)
  clear h2 hg
  rw [← HN.out]
  go_wp2_with fail
  go_ret
  exact ⟨rfl, HB2.out, HW2.out⟩

set_option maxHeartbeats 800000 in
set_option maxRecDepth 20000 in
theorem ask3 (base : Nat) (lo lo2 : Nat → Prop) (B B2 e : Nat) (l : List Nat) (most : Int) (w : World) (hA : Apart base lo lo2 B B2) (h1 : Rd 59 lo w B l e) (h2 : Rd 43 lo2 w B2 l e) (hbase : base ≤ w.heap.size) :
    Calls Try.prog 20 #[.pointer (some ⟨B, 0, none⟩), .pointer (some ⟨B2, 0, none⟩), .agg #[.int .i64 3, .int .i64 most]] w fun en w' => Asked base lo lo2 B B2 (Cod.rdNum 8 l e).2.1 (Cod.rdNum 8 l e).2.2 w en w' := by
  have hal : Below w.heap.size w (w.alloc (.cells #[.int .i64 3, .int .i64 most] 46)) := (Below.refl _ _).alloc (Nat.le_refl _) _
  have H1 := Lib.hid (h1.below hal)
  have H2 := Lib.hid (h2.below hal)
  have HW := Lib.hid (hal.mono hbase)
  have HA := Lib.hid hA
  have hlt := rdNum_lt 8 l e h1.small
  clear hal h1 h2 hA
  go_enter Try.func20, Try.ntmps20
  go_wp2_with fail
  refine (U64_any _ _ _ _ _ H1.out).mono ?_
  rintro en w1 ⟨rfl, h1, hg⟩
  have H11 := Lib.hid h1
  have H21 := Lib.hid (H2.out.grown hg (fun g hg => by cases hg; exact ⟨HA.out.b, HA.out.ne⟩))
  have HW1 := Lib.hid (below_grown2 HW.out hg hbase HA.out.e)
  clear h1 hg
  obtain ⟨n, hn⟩ : ∃ n, n = (Cod.rdNum 8 l e).1 := ⟨_, rfl⟩
  rw [← hn] at hlt ⊢
  have HN := Lib.hid hn
  have hlt2 : n < 18446744073709551616 := hlt
  clear hn hlt
  go_wp2_with fail
  refine (refNum_any _ _ _ 8 _ _ H21.out (by decide) (by decide)).mono ?_
  rintro en w2 ⟨rfl, h2, hg⟩
  have HB2 := Lib.hid (show Both lo lo2 B B2 _ _ w2 from ⟨H11.out.grown hg (fun g hg => by cases hg; exact ⟨HA.out.a, Ne.symm HA.out.ne⟩), h2⟩)
  have HW2 := Lib.hid (below_grown2 HW1.out hg hbase HA.out.f)
  clear h2 hg
  rw [← HN.out]
  go_wp2_with fail
  go_ret
  exact ⟨rfl, HB2.out, HW2.out⟩

set_option maxHeartbeats 800000 in
set_option maxRecDepth 20000 in
theorem ask4 (base : Nat) (lo lo2 : Nat → Prop) (B B2 e : Nat) (l : List Nat) (most : Int) (w : World) (hA : Apart base lo lo2 B B2) (h1 : Rd 59 lo w B l e) (h2 : Rd 43 lo2 w B2 l e) (hbase : base ≤ w.heap.size) :
    Calls Try.prog 20 #[.pointer (some ⟨B, 0, none⟩), .pointer (some ⟨B2, 0, none⟩), .agg #[.int .i64 4, .int .i64 most]] w fun en w' => Asked base lo lo2 B B2 (Cod.rdUv l e).2.1 (Cod.rdUv l e).2.2 w en w' := by
  have hal : Below w.heap.size w (w.alloc (.cells #[.int .i64 4, .int .i64 most] 46)) := (Below.refl _ _).alloc (Nat.le_refl _) _
  have H1 := Lib.hid (h1.below hal)
  have H2 := Lib.hid (h2.below hal)
  have HW := Lib.hid (hal.mono hbase)
  have HA := Lib.hid hA
  clear hal h1 h2 hA
  go_enter Try.func20, Try.ntmps20
  go_wp2_with fail
  refine (Uv_any _ _ _ _ _ H1.out).mono ?_
  rintro en w1 ⟨rfl, h1, hg⟩
  have H11 := Lib.hid h1
  have H21 := Lib.hid (H2.out.grown hg (fun g hg => by cases hg; exact ⟨HA.out.b, HA.out.ne⟩))
  have HW1 := Lib.hid (below_grown2 HW.out hg hbase HA.out.e)
  clear h1 hg
  go_wp2_with fail
  refine (refRUv_any _ _ _ _ _ H21.out).mono ?_
  rintro en w2 ⟨rfl, h2, hg⟩
  have HB2 := Lib.hid (show Both lo lo2 B B2 _ _ w2 from ⟨H11.out.grown hg (fun g hg => by cases hg; exact ⟨HA.out.a, Ne.symm HA.out.ne⟩), h2⟩)
  have HW2 := Lib.hid (below_grown2 HW1.out hg hbase HA.out.f)
  clear h2 hg
  go_wp2_with fail
  go_ret
  exact ⟨rfl, HB2.out, HW2.out⟩

set_option maxHeartbeats 800000 in
set_option maxRecDepth 20000 in
theorem askElse (base : Nat) (lo lo2 : Nat → Prop) (B B2 e : Nat) (l : List Nat) (kind most : Int) (w : World) (h : Both lo lo2 B B2 l e w) (hbase : base ≤ w.heap.size) (hk : kind < 0 ∨ 5 < kind) :
    Calls Try.prog 20 #[.pointer (some ⟨B, 0, none⟩), .pointer (some ⟨B2, 0, none⟩), .agg #[.int .i64 kind, .int .i64 most]] w fun en w' => Asked base lo lo2 B B2 l e w en w' := by
  have hal : Below w.heap.size w (w.alloc (.cells #[.int .i64 kind, .int .i64 most] 46)) := (Below.refl _ _).alloc (Nat.le_refl _) _
  have HB : Hid (Both lo lo2 B B2 l e (w.alloc (.cells #[.int .i64 kind, .int .i64 most] 46))) := by
    exact ⟨h.1.below hal, h.2.below hal⟩
  have HW := Lib.hid (hal.mono hbase)
  have k0 : (kind == 0) = false := by simp; omega
  have k1 : (kind == 1) = false := by simp; omega
  have k2 : (kind == 2) = false := by simp; omega
  have k3 : (kind == 3) = false := by simp; omega
  have k4 : (kind == 4) = false := by simp; omega
  have k5 : (kind == 5) = false := by simp; omega
  clear hal h hk
  go_enter Try.func20, Try.ntmps20
  go_wp2_with fail
  go_ret
  exact ⟨rfl, HB.out, HW.out⟩

def TextOver (lo2 : Nat → Prop) (B2 : Nat) (w0 : World) (s : ByteArray) (l : List Nat) (en : Nat) (e : Ending) (w' : World) : Prop :=
  ∃ p n cap, e = .returned (.slice p n cap) ∧ (convert 22 9 (.slice p n cap)).run Try.prog w' = .ok (.string s) w' ∧ w0.grownBy w' (some B2) ∧ Rd 43 lo2 w' B2 l en

theorem refText_over (lo2 : Nat → Prop) (B2 e : Nat) (l : List Nat) (most : Int) (w0 : World) (h : Rd 43 lo2 w0 B2 l e) (hm : most ≤ 9223372036854775807) :
    Calls Try.prog 37 #[.pointer (some ⟨B2, 0, none⟩), .int .i64 most] w0.drew fun en w' => TextOver lo2 B2 w0 (strOfNums ((Cod.rdText most l e).1.map fun x : Nat => (x : Int))) (Cod.rdText most l e).2.1 (Cod.rdText most l e).2.2 en w' := by
  refine (refRText_any lo2 B2 e l most _ (h.below (below_drew _ _)) hm).mono ?_
  rintro en w' ⟨v, rfl, hO, hR, hg⟩
  obtain ⟨p, cap, rfl, -, -, -⟩ := hO.bts.form
  exact ⟨p, _, cap, rfl, strOf_conv hO.bts, grownBy_trans (grownBy_drew _ _) hg, hR⟩

/-- Where a text that was handed back may be written. -/
theorem own_row {base cap : Nat} {p : Option Addr} {w1 : World} {t : List Nat} (hO : Own base w1 (.slice p t.length cap) t) (w2 : World) (B2 : Nat) (hg : w1.grownBy w2 (some B2)) (hB2 : B2 < base) :
    ∃ G, base ≤ G ∧ (0 < t.length → p = some ⟨G, 0, none⟩ ∧ Row w2 G t.length) := by
  rcases hO.form with ⟨hv, ht⟩ | ⟨g, c, hv, h1, h2, h3, h4⟩
  · exact ⟨base, Nat.le_refl _, fun h => by rw [ht] at h; simp at h⟩
  · simp only [Value.slice.injEq] at hv
    exact ⟨g, h1, fun _ => ⟨hv.1, h4.grown hg (by intro h; cases h; omega)⟩⟩

set_option maxHeartbeats 3200000 in
set_option maxRecDepth 20000 in
theorem ask5 (base : Nat) (lo lo2 : Nat → Prop) (B B2 e : Nat) (l : List Nat) (most : Int) (w : World) (hA : Apart base lo lo2 B B2) (h1 : Rd 59 lo w B l e) (h2 : Rd 43 lo2 w B2 l e) (hbase : base ≤ w.heap.size) (hm : most ≤ 9223372036854775807) :
    Calls Try.prog 20 #[.pointer (some ⟨B, 0, none⟩), .pointer (some ⟨B2, 0, none⟩), .agg #[.int .i64 5, .int .i64 most]] w fun en w' => Asked base lo lo2 B B2 (Cod.rdText most l e).2.1 (Cod.rdText most l e).2.2 w en w' := by
  have hal : Below w.heap.size w (w.alloc (.cells #[.int .i64 5, .int .i64 most] 46)) := (Below.refl _ _).alloc (Nat.le_refl _) _
  have hcA : (w.alloc (.cells #[.int .i64 5, .int .i64 most] 46)).cell? ⟨w.heap.size, 1, none⟩ = some (.int .i64 most) := cell2_1 (heap_alloc_last _ _)
  have HCA := Lib.hid hcA
  have H1 := Lib.hid (h1.below hal)
  have H2 := Lib.hid (h2.below hal)
  have HW := Lib.hid (hal.mono hbase)
  have HA := Lib.hid hA
  have HM := Lib.hid hm
  have hBl := h1.lt
  have HB2l : Hid (B2 < w.heap.size + 1) := Nat.lt_succ_of_lt h2.lt
  clear hal h1 h2 hA hcA
  go_enter Try.func20, Try.ntmps20
  go_wp2_with fail
  refine (Text_any _ _ _ _ _ _ H1.out HM.out).mono ?_
  rintro en w1 ⟨v, rfl, hO, h1, hg⟩
  have hne : some w.heap.size ≠ some B := by intro h; cases h; exact Nat.lt_irrefl _ hBl
  have hcA := hg.cell HCA.out hne
  have H11 := Lib.hid h1
  have H21 := Lib.hid (H2.out.grown hg (fun g hg => by cases hg; exact ⟨HA.out.b, HA.out.ne⟩))
  have HW1 := Lib.hid (below_grown2 HW.out hg hbase HA.out.e)
  have HO := Lib.hid (hO.from (base' := w.heap.size + 1) (by simp))
  have HSZ : Hid (w.heap.size ≤ w1.heap.size) := HW1.out.size
  clear h1 hg hO hne HCA H1 H2
  obtain ⟨t, ht⟩ : ∃ t, t = (Cod.rdText most l e).1 := ⟨_, rfl⟩
  rw [← ht] at HO
  have HT := Lib.hid ht
  clear ht
  obtain ⟨p, cap, rfl, -, -, -⟩ := HO.out.bts.form
  have hcv : ∀ w', w1.grownBy w' (some B2) → (convert 22 9 (.slice p t.length cap)).run Try.prog w' = .ok (.string (strOfNums (t.map fun x : Nat => (x : Int)))) w' := by
    intro w' hg
    refine strOf_conv (HO.out.bts.grown hg (fun _ he => ?_))
    have h3 := World.ownsRow.lt HO.out.own B2 he
    have := HB2l.out
    omega
  have hg0 : w1.grownBy w1.drew (some B2) := grownBy_drew _ _
  have HRT := Lib.hid (refText_over lo2 B2 e l most w1 H21.out HM.out)
  rw [← HT.out] at HRT
  go_wp2_with fail
  go_region_with (first | ((with_reducible refine HRT.out.mono ?_); rintro en w2 ⟨p2, n2, cap2, rfl, hcv2, hg2, hR2⟩))
  all_goals
    have HR2 := Lib.hid hR2
    have HG2 := Lib.hid hg2
    clear hR2 hg2 hcv2 hcv hg0 hcA HRT
    go_wp2
    have HROW := Lib.hid (own_row HO.out w2 B2 HG2.out HB2l.out)
    obtain ⟨G, hG1, hG2⟩ := HROW.out
    have HG := Lib.hid hG2
    clear hG2
    go_loopw [9] (fun i wr => ∃ k : Nat, k ≤ t.length ∧ i = .int .i64 k ∧ w2.grownBy wr (some G) ∧ (0 < t.length → Row wr G t.length)) (fun i _ => t.length - (intOf i).toNat)
    case atStart => exact ⟨0, Nat.zero_le _, rfl, grownBy_refl _ _, fun h => (HG.out h).2⟩
    case round =>
      obtain ⟨k, hk, rfl, hgr, hrow⟩ := hrel
      have HGR := Lib.hid hgr
      have HR := Lib.hid hrow
      clear hgr hrow
      by_cases hlt : k < t.length
      · obtain ⟨hp, -⟩ := HG.out (by omega)
        have hrow := HR.out (by omega)
        obtain ⟨b, hb, hck⟩ := hrow.cell k hlt
        have hfk := hrow.free k
        have hlen := HO.out.len
        have HX := Lib.hid (hrow.set k (b ^^^ 1) (Nat.xor_lt_two_pow (n := 8) hb (by decide)))
        have HXE : Hid (bits .xor .u8 (b : Int) 1 = ((b ^^^ 1 : Nat) : Int)) := u8_xor_nat b 1 hb (by decide)
        subst hp
        clear hrow
        go_wp2
        go_roundw
        case rel => exact ⟨k + 1, by omega, by go_num, grownBy_trans HGR.out (grownBy_setCell _ _ _ _), fun _ => by rw [HXE.out]; exact HX.out⟩
        case measure => simp [intOf]; omega
      · obtain rfl : k = t.length := by omega
        go_wp2
        go_ret
        have hGB : B < G ∧ B2 < G := ⟨by omega, by have := HB2l.out; omega⟩
        have h11 := (H11.out.grown HG2.out (fun g hg => by cases hg; exact ⟨HA.out.a, Ne.symm HA.out.ne⟩)).grown HGR.out (fun g hg => by cases hg; exact ⟨fun h => by have := HA.out.c _ h; omega, by omega⟩)
        have h22 := HR2.out.grown HGR.out (fun g hg => by cases hg; exact ⟨fun h => by have := HA.out.d _ h; omega, by omega⟩)
        exact ⟨rfl, ⟨h11, h22⟩, below_grown2 (below_grown2 HW1.out HG2.out hbase HA.out.f) HGR.out hbase (by omega)⟩

end Go.Proofs.Ytpakohlniaiclaa
