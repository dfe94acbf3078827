/- What the law PageCrash answers, for every list of puts, every time to fall and every picks. Conditions: the list's cells and the picks' hold what they tell. -/
import Derived.Test.YtkmkbjjpbodbfaaPageMixed
namespace Go.Proofs.Ytkmkbjjpbodbfaa
open Go.RowKit

section
variable {PD : (Nat → Prop) → World → Nat → Dk.Dev → Prop}

/-- A page of eight, by its bytes. -/
def pgL (F : Nat → List Nat) : List (Nat × List Nat) := (List.range 8).map fun n => (Pg.openN (F n), Pg.openL (F n))
theorem pgL_length (F : Nat → List Nat) : (pgL F).length = 8 := by simp [pgL]
theorem pgL_at (F : Nat → List Nat) {n : Nat} (hn : n < 8) : (pgL F).getD n (0, []) = (Pg.openN (F n), Pg.openL (F n)) := by
  simp [pgL, List.getD_eq_getElem?_getD, hn]
theorem pgL_zeros : pgL (fun _ => Pg.zeros 512) = List.replicate 8 (0, Pg.zeros 500) := by
  show (List.range 8).map (fun _ => (Pg.openN (Pg.zeros 512), Pg.openL (Pg.zeros 512))) = _
  rw [Pg.openN_zeros, Pg.openL_zeros]
  rfl
theorem pgL_set (F : Nat → List Nat) {m k : Nat} {b l : List Nat} (hm : m < 8) (hn : Pg.openN b = k) (hl : Pg.openL b = l) : pgL (fun n => if n = m then b else F n) = (pgL F).set m (k, l) := by
  apply List.ext_getElem?
  intro i
  unfold pgL
  by_cases h : i < 8
  · rw [List.getElem?_set]
    by_cases hm' : m = i
    · subst hm'
      simp [hm, hn, hl]
    · simp [h, hm', Ne.symm hm']
  · rw [List.getElem?_eq_none (by simp; omega), List.getElem?_eq_none (by simp; omega)]

theorem PRow.from {base base' : Nat} {P : Nat → Prop} {w : World} {v : Value} {l : List Pp} {L : List (Nat × List Nat)} (h : PRow base P w v l L) (hb : base' ≤ base) : PRow base' P w v l L where
  own := h.own.from hb
  len := h.len
  row := h.row
  key := h.key
  body := fun i hi => (h.body i hi).from hb
  blk := h.blk

theorem PRow.one {base : Nat} {P : Nat → Prop} {w : World} {v : Value} {l : List Pp} {L : List (Nat × List Nat)} (h : PRow base P w v l L) : ∀ x ∈ l, x.2.oneCell' = true := by
  intro x hx
  obtain ⟨i, hi, rfl⟩ := List.getElem_of_mem hx
  have hb := h.body i (by rw [← h.len]; exact hi)
  rw [List.getD_eq_getElem?_getD, List.getElem?_eq_getElem hi, Option.getD_some] at hb
  obtain ⟨p, c, e⟩ := own_slv hb
  rw [e]; rfl
/-- A row copied: the bodies are the same. -/
theorem PRow.copied {base b2 : Nat} {P : Nat → Prop} {w w' : World} {v v0 v' : Value} {l : List Pp} {L : List (Nat × List Nat)} (h : PRow base P w v l L) (hO : POwn b2 w' v' l) (hg : w.grownBy w' v0.ownBlock) (h0 : POwn b2 w v0 []) (_ : b2 ≤ w.heap.size) (_ : True := trivial) (hb2 : base ≤ b2) :
    PRow base (fun i => (b2 ≤ i ∧ i < w'.heap.size) ∨ ∃ j, j < L.length ∧ (l.getD j dP).2.ownBlock = some i) w' v' l L where
  own := hO.from hb2
  len := h.len
  row := fun g hgv => Or.inl (World.ownsRow.lt hO g hgv)
  key := h.key
  body := fun i hi => (h.body i hi).grown hg (apart_rows (h.body i hi).own h0 (by decide))
  blk := fun i hi b hb => Or.inr ⟨i, hi, hb⟩

/-- What stands at the head of the loop of puts: the device, the pages that last and those that are to, in rows of their own. -/
structure CrR (w : World) (B g10 c10 : Nat) (l : List PutV) (K : Nat) (v9 : Value) (d : Dk.Dev) (LB NB : Nat → List Nat) (S P9 P10 : Nat → Prop) (r9 r10 : List Pp) (wr : World) : Prop where
  inv : Pg.CrInv l K d LB NB
  row9 : PRow w.heap.size P9 wr v9 r9 (pgL LB)
  row10 : PRow w.heap.size P10 wr (.slice (some ⟨g10, 0, none⟩) 8 c10) r10 (pgL NB)
  apart9 : ∀ i, S i → ¬ P9 i
  apart10 : ∀ i, S i → ¬ P10 i
  not10 : ¬ P9 g10
  low : ∀ i, S i → w.heap.size ≤ i
  p9 : ∀ i, P9 i → i < wr.heap.size
  p10 : ∀ i, P10 i → i < wr.heap.size
  bel : Below w.heap.size w wr

/-- Where a page that was read is held against those that last and those that are to: what the operations left. -/
def CkA (g9 c9 g10 c10 k : Nat) (_ n9 n10 : Nat) (_ v9 v10 _ : Value) (i : Nat) (v : Value) (_ : World) : Prop :=
  match i with
  | 0 => v = .int .i64 14
  | 1 => v = .bool true
  | 2 => v = .bool true
  | 3 => v = .slice (some ⟨g9, 0, none⟩) 8 c9
  | 4 => v = .int .i64 (k : Int)
  | 5 => v = .pointer (some ⟨g9, k * 2, none⟩)
  | 6 => v = .agg #[.int .u64 (n9 : Int), v9]
  | 7 => v = .slice (some ⟨g10, 0, none⟩) 8 c10
  | 8 => v = .int .i64 (k : Int)
  | 9 => v = .pointer (some ⟨g10, k * 2, none⟩)
  | 10 => v = .agg #[.int .u64 (n10 : Int), v10]
  | 11 => v = .bool false
  | 12 => v = .bool true
  | 13 => v = .bool true
  | _ => True
def CkZ (_ _ _ _ _ : Nat) (_ _ _ : Nat) (_ _ _ _ : Value) (i : Nat) (v : Value) (_ : World) : Prop :=
  match i with
  | 0 => v = .int .i64 0
  | 1 => v = .bool false
  | 2 => v = .bool false
  | 3 => v = undef
  | 4 => v = undef
  | 5 => v = undef
  | 6 => v = undef
  | 7 => v = undef
  | 8 => v = undef
  | 9 => v = undef
  | 10 => v = undef
  | 11 => v = undef
  | 12 => v = undef
  | 13 => v = .bool false
  | _ => True
def CkB1 (g9 c9 _ _ k : Nat) (nb n9 _ : Nat) (ub v9 _ _ : Value) (i : Nat) (v : Value) (_ : World) : Prop :=
  match i with
  | 0 => v = .int .i64 0
  | 1 => v = .bool false
  | 2 => v = .bool false
  | 3 => v = .agg #[.int .u64 (nb : Int), ub]
  | 4 => v = .slice (some ⟨g9, 0, none⟩) 8 c9
  | 5 => v = .int .i64 (k : Int)
  | 6 => v = .pointer (some ⟨g9, k * 2, none⟩)
  | 7 => v = .agg #[.int .u64 (n9 : Int), v9]
  | 8 => v = .bool true
  | 9 => v = .bool false
  | 10 => v = .bool false
  | 11 => v = undef
  | 12 => v = undef
  | 13 => v = undef
  | 14 => v = undef
  | 15 => v = undef
  | 16 => v = undef
  | 17 => v = undef
  | 18 => v = .bool false
  | 19 => v = .bool false
  | 20 => v = undef
  | 21 => v = undef
  | 22 => v = undef
  | 23 => v = undef
  | 24 => v = undef
  | 25 => v = .bool false
  | 26 => v = .bool false
  | _ => True
def CkB2 (g9 c9 g10 c10 k : Nat) (nb n9 n10 : Nat) (ub v9 v10 _ : Value) (i : Nat) (v : Value) (_ : World) : Prop :=
  match i with
  | 0 => v = .int .i64 0
  | 1 => v = .bool false
  | 2 => v = .bool false
  | 3 => v = .agg #[.int .u64 (nb : Int), ub]
  | 4 => v = .slice (some ⟨g9, 0, none⟩) 8 c9
  | 5 => v = .int .i64 (k : Int)
  | 6 => v = .pointer (some ⟨g9, k * 2, none⟩)
  | 7 => v = .agg #[.int .u64 (n9 : Int), v9]
  | 8 => v = .bool false
  | 9 => v = .bool true
  | 10 => v = .bool true
  | 11 => v = .agg #[.int .u64 (nb : Int), ub]
  | 12 => v = .slice (some ⟨g10, 0, none⟩) 8 c10
  | 13 => v = .int .i64 (k : Int)
  | 14 => v = .pointer (some ⟨g10, k * 2, none⟩)
  | 15 => v = .agg #[.int .u64 (n10 : Int), v10]
  | 16 => v = .bool true
  | 17 => v = .bool false
  | 18 => v = .bool false
  | 19 => v = .bool false
  | 20 => v = undef
  | 21 => v = undef
  | 22 => v = undef
  | 23 => v = undef
  | 24 => v = undef
  | 25 => v = .bool false
  | 26 => v = .bool false
  | _ => True
def CkB3 (g9 c9 g10 c10 k : Nat) (nb n9 n10 : Nat) (ub v9 v10 vl : Value) (i : Nat) (v : Value) (_ : World) : Prop :=
  match i with
  | 0 => v = .int .i64 0
  | 1 => v = .bool false
  | 2 => v = .bool false
  | 3 => v = .agg #[.int .u64 (nb : Int), ub]
  | 4 => v = .slice (some ⟨g9, 0, none⟩) 8 c9
  | 5 => v = .int .i64 (k : Int)
  | 6 => v = .pointer (some ⟨g9, k * 2, none⟩)
  | 7 => v = .agg #[.int .u64 (n9 : Int), v9]
  | 8 => v = .bool false
  | 9 => v = .bool true
  | 10 => v = .bool true
  | 11 => v = .agg #[.int .u64 (nb : Int), ub]
  | 12 => v = .slice (some ⟨g10, 0, none⟩) 8 c10
  | 13 => v = .int .i64 (k : Int)
  | 14 => v = .pointer (some ⟨g10, k * 2, none⟩)
  | 15 => v = .agg #[.int .u64 (n10 : Int), v10]
  | 16 => v = .bool false
  | 17 => v = .bool true
  | 18 => v = .bool true
  | 19 => v = .bool true
  | 20 => v = .agg #[.int .u64 (nb : Int), ub]
  | 21 => v = .int .i64 (k : Int)
  | 22 => v = vl
  | 23 => v = .bool true
  | 24 => v = .bool false
  | 25 => v = .bool false
  | 26 => v = .bool false
  | _ => True

theorem PRow.eight {base g c : Nat} {P : Nat → Prop} {w : World} {r : List Pp} {F : Nat → List Nat} (h : PRow base P w (.slice (some ⟨g, 0, none⟩) 8 c) r (pgL F)) {k : Nat} (hk : k < 8) :
    ∃ p z c', w.cell? ⟨g, k * 2, none⟩ = some (.int .u64 (Pg.openN (F k) : Nat)) ∧ w.cell? ⟨g, k * 2 + 1, none⟩ = some (.slice p z c') ∧ Bts w (.slice p z c') (Pg.openL (F k)) ∧ g < w.heap.size := by
  have hl : r.length = 8 := by rw [h.len, pgL_length]
  have ho := h.own
  have hlt := (World.ownsRow.lt h.own g rfl).2
  rw [← hl] at ho
  obtain ⟨h1, h2⟩ := ho.at k (by omega)
  have hk1 := h.key k (by rw [pgL_length]; exact hk)
  have hb := h.body k (by rw [pgL_length]; exact hk)
  rw [pgL_at _ hk] at hk1 hb
  rw [hk1] at h1
  obtain ⟨p, c', e⟩ := own_slv hb
  rw [e] at h2
  have hb2 := hb.bts
  rw [e] at hb2
  exact ⟨p, _, c', h1, h2, hb2, hlt⟩
theorem PutsIn.below {w w' : World} {v : Value} {l : List PutV} (h : PutsIn w v l) (hb : Below w.heap.size w w') : PutsIn w' v l where
  form := by
    obtain ⟨p, cap, e, h1, h2, h3⟩ := h.form
    refine ⟨p, cap, e, h1, h2, fun h0 => ?_⟩
    obtain ⟨b, off, e2, h4⟩ := h3 h0
    refine ⟨b, off, e2, fun i hi => (h4 i hi).below hb (block_lt_of_cell (h4 i hi).c0)⟩

set_option maxHeartbeats 6400000 in
set_option maxRecDepth 20000 in
theorem pageCrash_any (A : PgDev PD) (v v2 : Value) (l : List PutV) (ps : List Nat) (a : Int) (w : World) (hL : PutsIn w v l) (hP : Bts w v2 ps) :
    Calls Try.prog 6 #[v, .int .i64 a, v2] w fun e w' => e = .returned (.bool true) ∧ Below w.heap.size w w' := by
  have HA := Lib.hid A
  have HP := Lib.hid hP
  obtain ⟨p, cap, rfl, hcap, -, hform⟩ := hL.form
  obtain ⟨p2, cap2, rfl, hcap2, -, hblk2⟩ := hP.form
  have HF := Lib.hid hform
  have HLI := Lib.hid hL
  have HBK := Lib.hid hblk2
  obtain ⟨q, hq⟩ : ∃ q : Nat, (a % 18446744073709551616 % 200).toNat = q := ⟨_, rfl⟩
  have hq1 : (IntKind.u64.wrap a).tmod 200 = (q : Int) := by
    rw [show IntKind.u64.wrap a = a % 18446744073709551616 by simp [IntKind.wrap, IntKind.bits, IntKind.signed]]
    rw [Int.tmod_eq_emod_of_nonneg (by omega)]
    omega
  have hq2 : q < 200 := by omega
  have hq3 : IntKind.i64.wrap (q : Int) = q := i64_small (by omega)
  clear hform hL hP hblk2 hcap hcap2 hq
  go_enter Try.func6, Try.ntmps6
  go_wp2_with fail
  refine (HA.out.new_good 32 32 w (by decide) (by decide) (by decide)).mono ?_
  rintro e w1 ⟨B, S, rfl, hD, hS, hb1⟩
  have HD := Lib.hid hD
  have HSL := Lib.hid hS
  have HB1 := Lib.hid hb1
  have HQ2 := Lib.hid hq2
  clear hD hS hb1 hq2
  go_wp2_with fail
  refine (HA.out.arm (q : Int) HD.out).mono ?_
  rintro e w2 ⟨rfl, S2, hD2, hT2, hS2⟩
  have ha : Dk.arm (Dk.fresh 32 32) (q : Int) = ({ Dk.fresh 32 32 with armed := q }, 0) := by
    have := HQ2.out
    unfold Dk.arm
    rw [if_neg (by decide), if_neg (by omega), Int.toNat_natCast]
  rw [ha] at hD2 ⊢
  have HD2 := Lib.hid hD2
  have HB2 : Hid (Below w.heap.size w w2) := HB1.out.trans (hT2.below HSL.out HB1.out.size)
  have HS2 : Hid (∀ i, S2 i → w.heap.size ≤ i) := fun i hi => by
    rcases hS2 i hi with h | h
    · exact HSL.out i h
    · have := HB1.out.size; omega
  clear ha hD2 hT2 hS2 hq1 hq3
  go_wp2_with fail
  refine (blanks_any 8 (by decide) w2).mono ?_
  rintro e w3 ⟨v9, r9, rfl, hrow9, hb3⟩
  have HROW9 := Lib.hid hrow9
  have HB3 := Lib.hid hb3
  clear hrow9 hb3
  go_wp2_with fail
  refine (blanks_any 8 (by decide) w3).mono ?_
  rintro e w4 ⟨v10, r10, rfl, hrow10, hb4⟩
  obtain ⟨g10, c10, rfl, g10ge, g10lt, c101, c102⟩ : ∃ g c, v10 = .slice (some ⟨g, 0, none⟩) 8 c ∧ w3.heap.size ≤ g ∧ g < w4.heap.size ∧ 8 ≤ c ∧ c ≤ 9223372036854775807 := by
    have hl := hrow10.len
    rw [List.length_replicate] at hl
    rcases hrow10.own.form with ⟨_, h0⟩ | ⟨g, c, h1, h2, h3, h4, h5⟩
    · rw [h0] at hl; cases hl
    · rw [hl] at h1 h4; exact ⟨g, c, h1, h2, h3, h4, h5⟩
  have HROW10 := Lib.hid hrow10
  have HB4 := Lib.hid hb4
  have HG10 : Hid (w3.heap.size ≤ g10 ∧ g10 < w4.heap.size) := ⟨g10ge, g10lt⟩
  clear hrow10 hb4 g10ge g10lt
  go_wp2_with fail
  go_loopw [9, 11] (fun v9 i wr => ∃ (K : Nat) (d : Dk.Dev) (LB NB : Nat → List Nat) (S P9 P10 : Nat → Prop) (r9 r10 : List Pp), K ≤ l.length ∧ K ≤ 40 ∧ i = .int .i64 K ∧ PD S wr B d ∧ d.off = false ∧ CrR w B g10 c10 l K v9 d LB NB S P9 P10 r9 r10 wr) (fun _ i _ => 40 - (intOf i).toNat)
  case atStart =>
    have hz2 := HB2.out.size
    have hz3 := HB3.out.size
    have hz4 := HB4.out.size
    refine ⟨0, _, fun _ => Pg.zeros 512, fun _ => Pg.zeros 512, S2, _, _, r9, r10, Nat.zero_le _, by omega, rfl, HA.out.below (HA.out.below HD2.out HB3.out) HB4.out, rfl, ⟨Pg.crInv_first l q (by have := HQ2.out; omega), by rw [pgL_zeros]; exact (HROW9.out.below HB4.out).from hz2, by rw [pgL_zeros]; exact HROW10.out.from (Nat.le_trans hz2 hz3), ?_, ?_, ?_, HS2.out, ?_, ?_, (HB2.out.trans (HB3.out.mono hz2)).trans (HB4.out.mono (Nat.le_trans hz2 hz3))⟩⟩
    · intro i hi hp
      have := HA.out.lt HD2.out i hi
      omega
    · intro i hi hp
      have := HA.out.lt HD2.out i hi
      omega
    · intro hp
      have := HG10.out.1
      omega
    · intro i hp; omega
    · intro i hp; omega
  case round =>
    rename_i KK hKK
    have TAIL : ∀ {x6 x9 x11 x12 x13 x14 x35 x36 x37 x38 x39 x40 x41 x42 x43 x44 x45 x46 x47 x48 x49 x50 x51 x52 x53 x54 x55 x56 x57 x58 x59 x60 x61 x62 x63 x64 x65 x66 x67 x68 x69 x70 x71 x72 x73 x74 x75 x76 x77 x78 x79 x80 x81 x82 x83 x84 x85 x86 : Value} (K : Nat) (d : Dk.Dev) (LB NB : Nat → List Nat) (S P9 P10 : Nat → Prop) (r9 r10 : List Pp) (W : World), K ≤ l.length → K ≤ 40 → PD S W B d → CrR w B g10 c10 l K x9 d LB NB S P9 P10 r9 r10 W → KK { tmps := #[.slice p l.length cap, .int .i64 a, .slice p2 ps.length cap2, undef, undef, undef, x6, .pointer (some ⟨B, 0, none⟩), .int .i64 0, x9, .slice (some ⟨g10, 0, none⟩) 8 c10, x11, x12, x13, x14, undef, undef, undef, .tuple #[.pointer (some ⟨B, 0, none⟩), .int .i64 0], .tuple #[.pointer (some ⟨B, 0, none⟩), .int .i64 0], .pointer (some ⟨B, 0, none⟩), .int .i64 0, .int .i64 0, .bool false, .bool false, .pointer (some ⟨B, 0, none⟩), .int .i64 a, .int .u64 (IntKind.u64.wrap a), .int .u64 (q : Int), .int .i64 (q : Int), .int .i64 0, .bool false, .bool false, v9, .slice (some ⟨g10, 0, none⟩) 8 c10, x35, x36, x37, x38, x39, x40, x41, x42, x43, x44, x45, x46, x47, x48, x49, x50, x51, x52, x53, x54, x55, x56, x57, x58, x59, x60, x61, x62, x63, x64, x65, x66, x67, x68, x69, x70, x71, x72, x73, x74, x75, x76, x77, x78, x79, x80, x81, x82, x83, x84, x85, x86, undef, undef, undef, undef, undef, undef, undef, undef, undef, undef, undef, undef, undef, undef, undef, undef, undef, undef, undef, undef, undef, undef, undef, undef, undef, undef, undef, undef, undef, undef, undef, undef, undef, undef, undef, undef, undef, undef, undef, undef, undef, undef, undef, undef, undef, undef, undef, undef, undef, undef, undef, undef, undef, undef, undef, undef], defers := [] } W := by
      intro x6 x9 x11 x12 x13 x14 x35 x36 x37 x38 x39 x40 x41 x42 x43 x44 x45 x46 x47 x48 x49 x50 x51 x52 x53 x54 x55 x56 x57 x58 x59 x60 x61 x62 x63 x64 x65 x66 x67 x68 x69 x70 x71 x72 x73 x74 x75 x76 x77 x78 x79 x80 x81 x82 x83 x84 x85 x86 K d LB NB S P9 P10 r9 r10 W hk1 hk2 hD hR
      clear hrel
      have HDD := Lib.hid hD
      have HR := Lib.hid hR
      clear hD hR
      apply hKK
      obtain ⟨g9, c9, rfl, c91, c92⟩ : ∃ g c, x9 = .slice (some ⟨g, 0, none⟩) 8 c ∧ 8 ≤ c ∧ c ≤ 9223372036854775807 := by
        have hr := HR.out.row9
        have hl := hr.len
        rw [pgL_length] at hl
        rcases hr.own.form with ⟨_, h0⟩ | ⟨g, c, h1, h2, h3, h4, h5⟩
        · rw [h0] at hl; cases hl
        · rw [hl] at h1 h4; exact ⟨g, c, h1, h4, h5⟩
      go_wp2_with fail
      have hcrs := HA.out.crash _ ps HDD.out (HP.out.below HR.out.bel) (fun h0 g hg hs => by
        have h1 := HR.out.low g hs
        have h2 := HP.out.block_lt h0 g hg
        omega)
      refine hcrs.mono ?_
      clear hcrs
      rintro e wc ⟨rfl, SC, hDC, hTC, hSC⟩
      have HDC := Lib.hid hDC
      have HCIN := Lib.hid HR.out.inv
      have H9 := Lib.hid (HR.out.row9.touch hTC (fun g hp hs' => HR.out.apart9 g hs' hp))
      have H10 := Lib.hid (HR.out.row10.touch hTC (fun g hp hs' => HR.out.apart10 g hs' hp))
      have HBC : Hid (Below w.heap.size w wc) := HR.out.bel.trans (hTC.below HR.out.low HR.out.bel.size)
      have HKC2 : Hid (K ≤ 40 ∧ K ≤ l.length) := ⟨by omega, by omega⟩
      have HCALM : Hid (Dk.Calm 32 (Dk.crash d ps)) := ⟨Dk.own_crash HCIN.out.own ps, rfl, rfl, by rw [Dk.crashed_size HCIN.out.own.ok]; exact HCIN.out.sz, HCIN.out.most⟩
      clear hDC hTC hSC 
      go_wp2_with fail
      go_loopw [15] (fun i wl => ∃ k : Nat, k ≤ 8 ∧ i = .int .i64 k ∧ Below wc.heap.size wc wl) (fun i _ => 8 - (intOf i).toNat)
      case atStart => exact ⟨0, Nat.zero_le _, rfl, Below.refl _ _⟩
      case round =>
        obtain ⟨k, hk, rfl, hb⟩ := hrel
        have HBL := Lib.hid hb
        clear hb
        by_cases hlt : k < 8
        · have hi : (k : Int) < 8 := by omega
          have HLT := Lib.hid hlt
          have HKI : Hid ((0 : Int) ≤ (k : Int) ∧ (k : Int) < 8) := ⟨by omega, hi⟩
          have hk64 := IntWalk.i64_in ((k : Int) + 1) (by omega)
          have hlies : Pg.lies ((32 : Nat) : Int) 0 (k : Int) = true := lies_true ⟨by omega, by omega, by omega, by rw [Int.tdiv_eq_ediv_of_nonneg (by omega)]; omega⟩
          have hpl : Pg.place 0 (k : Int) = 4 * k := by unfold Pg.place; omega
          have hrd := HA.out.read 0 (k : Int) (HA.out.below HDC.out HBL.out) (by unfold I64; omega) (by unfold I64; omega)
          rw [Pg.read_calm HCALM.out hlies, hpl] at hrd
          have hcc := HCIN.out.crash HKC2.out.1 ps hlt
          generalize Dk.pv (Dk.crash d ps) (4 * k) = b at hrd hcc
          dsimp only at hrd
          have HRD := Lib.hid hrd
          have HCC := Lib.hid hcc
          clear hrd hcc hlies hpl hk
          go_wp2_with fail
          refine HRD.out.mono ?_
          rintro e w5 ⟨u, rfl, hO5, hb5⟩
          have hpb := hO5.bts
          have hc5 := HBL.out.trans (hb5.mono HBL.out.size)
          obtain ⟨pu, cu, rfl⟩ := own_slv hO5
          obtain ⟨W6, hW6⟩ : ∃ W6, W6 = w5.alloc (.cells #[.int .u64 (Pg.openN b : Nat), .slice pu (Pg.openL b).length cu] 25) := ⟨_, rfl⟩
          have hb6 : Below w5.heap.size w5 W6 := by rw [hW6]; exact (Below.refl _ _).alloc (Nat.le_refl _) _
          have hx6 : W6.heap[w5.heap.size]? = some (.cells #[.int .u64 (Pg.openN b : Nat), .slice pu (Pg.openL b).length cu] 25 (0, 0)) := by rw [hW6]; exact heap_alloc_last _ _
          have HPB := Lib.hid (hpb.below hb6)
          have HC6 := Lib.hid (hc5.trans (hb6.mono hc5.size))
          have HB6 := Lib.hid (HBC.out.trans (HC6.out.mono HBC.out.size))
          clear hO5 hb5 HRD hpb hc5 hb6
          go_upto_region 24 with (fail)
          rw [← hW6]
          obtain ⟨X, hX⟩ : ∃ X, X = w5.heap.size := ⟨_, rfl⟩
          rw [← hX] at hx6 ⊢
          have HXL : Hid (X < W6.heap.size) := lt_of_block hx6
          have HXP0 := Lib.hid (cell2_0 hx6)
          have HXP1 := Lib.hid (cell2_1 hx6)
          obtain ⟨p9, z9, d9, n1, n2, n3, n4⟩ := (H9.out.below HC6.out).eight HLT.out
          obtain ⟨p10, z10, d10, t1, t2, t3, t4⟩ := (H10.out.below HC6.out).eight HLT.out
          have HN0 := Lib.hid n1
          have HN1 := Lib.hid n2
          have HNB := Lib.hid n3
          have HNL : Hid (g9 < W6.heap.size) := n4
          have HT0 := Lib.hid t1
          have HT1 := Lib.hid t2
          have HTB := Lib.hid t3
          have HTL : Hid (g10 < W6.heap.size) := t4
          clear hW6 hX hx6 n1 n2 n3 n4 t1 t2 t3 t4 hi
          rcases HCC.out with ⟨he, hne⟩ | ⟨he, hor⟩
          · have HNE := Lib.hid hne
            rw [show ((Pg.openE b : Nat) : Int) = 14 by rw [he]; rfl]
            clear he hne HCC
            refine Ord.walk (CkA g9 c9 g10 c10 k (Pg.openN b) (Pg.openN (LB k)) (Pg.openN (NB k)) (.slice pu (Pg.openL b).length cu) (.slice p9 z9 d9) (.slice p10 z10 d10) (.slice p l.length cap)) (fun _ _ w' => Below W6.heap.size W6 w') (fun _ _ => True)
              (by kernel_rfl) (by kernel_rfl) ?frt1A ?hfrt1A (fun _ _ _ _ _ h => h) (fun xs => (Below.refl _ _).go1) ?het1A ?hendt1A
            case hfrt1A =>
              intro xs
              simp only [Ord.fill, Act.put, List.setIfInBounds_toArray, List.set_cons_zero, List.set_cons_succ]
              rfl
            case het1A =>
              refine Ord.each_cons (fun D xs w2 hD hC hP hR hA K hK => ?_) ?_
              · -- 0
                clear hA
                go_simp
                exact hK _ _ ⟨_, rfl, trivial, hR, rfl⟩
              refine Ord.each_cons (fun D xs w2 hD hC hP hR hA K hK => ?_) ?_
              · -- 1
                have q0 := Ord.ahead_get _ hA 0 (by decide)
                simp only [CkA] at q0
                simp only [q0] at hK
                clear hA
                go_simp
                exact hK _ _ ⟨_, rfl, trivial, hR, rfl⟩
              refine Ord.each_cons (fun D xs w2 hD hC hP hR hA K hK => ?_) ?_
              · -- 2
                have q1 := Ord.ahead_get _ hA 1 (by decide)
                simp only [CkA] at q1
                simp only [q1] at hK
                clear hA
                go_simp
                exact hK _ _ ⟨_, rfl, trivial, hR, rfl⟩
              refine Ord.each_cons (fun D xs w2 hD hC hP hR hA K hK => ?_) ?_
              · -- 3
                have q2 := Ord.ahead_get _ hA 2 (by decide)
                simp only [CkA] at q2
                simp only [q2] at hK
                clear hA
                go_simp
                exact hK _ _ ⟨_, rfl, trivial, hR, rfl⟩
              refine Ord.each_cons (fun D xs w2 hD hC hP hR hA K hK => ?_) ?_
              · -- 4
                have q2 := Ord.ahead_get _ hA 2 (by decide)
                simp only [CkA] at q2
                simp only [q2] at hK
                clear hA
                go_simp
                exact hK _ _ ⟨_, rfl, trivial, hR, rfl⟩
              refine Ord.each_cons (fun D xs w2 hD hC hP hR hA K hK => ?_) ?_
              · -- 5
                have q3 := Ord.ahead_get _ hA 3 (by decide)
                simp only [CkA] at q3
                have q4 := Ord.ahead_get _ hA 4 (by decide)
                simp only [CkA] at q4
                have q2 := Ord.ahead_get _ hA 2 (by decide)
                simp only [CkA] at q2
                simp only [q3, q4, q2] at hK
                clear hA
                have hk1 := HKI.out.1
                have hk2 := HKI.out.2
                go_simp
                exact hK _ _ ⟨_, rfl, trivial, hR, rfl⟩
              refine Ord.each_cons (fun D xs w2 hD hC hP hR hA K hK => ?_) ?_
              · -- 6
                have q5 := Ord.ahead_get _ hA 5 (by decide)
                simp only [CkA] at q5
                have q2 := Ord.ahead_get _ hA 2 (by decide)
                simp only [CkA] at q2
                simp only [q5, q2] at hK
                clear hA
                have c0 := hR.cell (p := ⟨g9, k * 2, none⟩) HNL.out
                rw [HN0.out] at c0
                have c1 := hR.cell (p := ⟨g9, k * 2 + 1, none⟩) HNL.out
                rw [HN1.out] at c1
                go_simp
                exact hK _ _ ⟨_, rfl, trivial, hR, rfl⟩
              refine Ord.each_cons (fun D xs w2 hD hC hP hR hA K hK => ?_) ?_
              · -- 7
                have q2 := Ord.ahead_get _ hA 2 (by decide)
                simp only [CkA] at q2
                simp only [q2] at hK
                clear hA
                go_simp
                exact hK _ _ ⟨_, rfl, trivial, hR, rfl⟩
              refine Ord.each_cons (fun D xs w2 hD hC hP hR hA K hK => ?_) ?_
              · -- 8
                have q2 := Ord.ahead_get _ hA 2 (by decide)
                simp only [CkA] at q2
                simp only [q2] at hK
                clear hA
                go_simp
                exact hK _ _ ⟨_, rfl, trivial, hR, rfl⟩
              refine Ord.each_cons (fun D xs w2 hD hC hP hR hA K hK => ?_) ?_
              · -- 9
                have q7 := Ord.ahead_get _ hA 7 (by decide)
                simp only [CkA] at q7
                have q8 := Ord.ahead_get _ hA 8 (by decide)
                simp only [CkA] at q8
                have q2 := Ord.ahead_get _ hA 2 (by decide)
                simp only [CkA] at q2
                simp only [q7, q8, q2] at hK
                clear hA
                have hk1 := HKI.out.1
                have hk2 := HKI.out.2
                go_simp
                exact hK _ _ ⟨_, rfl, trivial, hR, rfl⟩
              refine Ord.each_cons (fun D xs w2 hD hC hP hR hA K hK => ?_) ?_
              · -- 10
                have q9 := Ord.ahead_get _ hA 9 (by decide)
                simp only [CkA] at q9
                have q2 := Ord.ahead_get _ hA 2 (by decide)
                simp only [CkA] at q2
                simp only [q9, q2] at hK
                clear hA
                have c0 := hR.cell (p := ⟨g10, k * 2, none⟩) HTL.out
                rw [HT0.out] at c0
                have c1 := hR.cell (p := ⟨g10, k * 2 + 1, none⟩) HTL.out
                rw [HT1.out] at c1
                go_simp
                exact hK _ _ ⟨_, rfl, trivial, hR, rfl⟩
              refine Ord.each_cons (fun D xs w2 hD hC hP hR hA K hK => ?_) ?_
              · -- 11
                have q6 := Ord.ahead_get _ hA 6 (by decide)
                simp only [CkA] at q6
                have q10 := Ord.ahead_get _ hA 10 (by decide)
                simp only [CkA] at q10
                have q2 := Ord.ahead_get _ hA 2 (by decide)
                simp only [CkA] at q2
                simp only [q6, q10, q2] at hK
                clear hA
                go_simp
                refine (refSame_any (Pg.openN (LB k)) (Pg.openN (NB k)) _ _ (Pg.openL (LB k)) (Pg.openL (NB k)) w2 (HNB.out.below hR) (HTB.out.below hR)).mono ?_
                rintro e w' ⟨rfl, hb⟩
                rw [Pg.same_key HNE.out]
                exact hK _ _ ⟨_, rfl, trivial, hR.trans (hb.mono hR.size), rfl⟩
              refine Ord.each_cons (fun D xs w2 hD hC hP hR hA K hK => ?_) ?_
              · -- 12
                have q11 := Ord.ahead_get _ hA 11 (by decide)
                simp only [CkA] at q11
                have q2 := Ord.ahead_get _ hA 2 (by decide)
                simp only [CkA] at q2
                simp only [q11, q2] at hK
                clear hA
                go_simp
                exact hK _ _ ⟨_, rfl, trivial, hR, rfl⟩
              refine Ord.each_cons (fun D xs w2 hD hC hP hR hA K hK => ?_) ?_
              · -- 13
                have q2 := Ord.ahead_get _ hA 2 (by decide)
                simp only [CkA] at q2
                have q12 := Ord.ahead_get _ hA 12 (by decide)
                simp only [CkA] at q12
                simp only [q2, q12] at hK
                clear hA
                go_simp
                exact hK _ _ ⟨_, rfl, trivial, hR, rfl⟩
              exact Ord.each_nil
            case hendt1A =>
              intro D7 xs7 w7 hR7 hF7
              have e7 := (hF7 13 (by decide)).2
              simp only [CkA] at e7
              rw [e7]
              have HB7 : Hid (Below wc.heap.size wc w7) := HC6.out.trans (hR7.mono HC6.out.size)
              clear e7 hF7
              generalize xs7 0 = y0 at *
              generalize xs7 1 = y1 at *
              generalize xs7 2 = y2 at *
              generalize xs7 3 = y3 at *
              generalize xs7 4 = y4 at *
              generalize xs7 5 = y5 at *
              generalize xs7 6 = y6 at *
              generalize xs7 7 = y7 at *
              generalize xs7 8 = y8 at *
              generalize xs7 9 = y9 at *
              generalize xs7 10 = y10 at *
              generalize xs7 11 = y11 at *
              generalize xs7 12 = y12 at *
              clear hR7
              go_wp2_with fail
              go_roundw
              case rel => exact ⟨k + 1, by omega, by go_num, HB7.out⟩
              case measure => simp [intOf]; omega
          · rw [show ((Pg.openE b : Nat) : Int) = 0 by rw [he]; rfl]
            have HE0 := Lib.hid he
            have HOR := Lib.hid hor
            clear he hor HCC
            refine Ord.walk (CkZ g9 c9 g10 c10 k (Pg.openN b) (Pg.openN (LB k)) (Pg.openN (NB k)) (.slice pu (Pg.openL b).length cu) (.slice p9 z9 d9) (.slice p10 z10 d10) (.slice p l.length cap)) (fun _ _ w' => Below W6.heap.size W6 w') (fun _ _ => True)
              (by kernel_rfl) (by kernel_rfl) ?frt1Z ?hfrt1Z (fun _ _ _ _ _ h => h) (fun xs => (Below.refl _ _).go1) ?het1Z ?hendt1Z
            case hfrt1Z =>
              intro xs
              simp only [Ord.fill, Act.put, List.setIfInBounds_toArray, List.set_cons_zero, List.set_cons_succ]
              rfl
            case het1Z =>
              refine Ord.each_cons (fun D xs w2 hD hC hP hR hA K hK => ?_) ?_
              · -- 0
                clear hA
                go_simp
                exact hK _ _ ⟨_, rfl, trivial, hR, rfl⟩
              refine Ord.each_cons (fun D xs w2 hD hC hP hR hA K hK => ?_) ?_
              · -- 1
                have q0 := Ord.ahead_get _ hA 0 (by decide)
                simp only [CkZ] at q0
                simp only [q0] at hK
                clear hA
                go_simp
                exact hK _ _ ⟨_, rfl, trivial, hR, rfl⟩
              refine Ord.each_cons (fun D xs w2 hD hC hP hR hA K hK => ?_) ?_
              · -- 2
                have q1 := Ord.ahead_get _ hA 1 (by decide)
                simp only [CkZ] at q1
                simp only [q1] at hK
                clear hA
                go_simp
                exact hK _ _ ⟨_, rfl, trivial, hR, rfl⟩
              refine Ord.each_cons (fun D xs w2 hD hC hP hR hA K hK => ?_) ?_
              · -- 3
                have q2 := Ord.ahead_get _ hA 2 (by decide)
                simp only [CkZ] at q2
                simp only [q2] at hK
                clear hA
                go_simp
                exact hK _ _ ⟨_, rfl, trivial, hR, rfl⟩
              refine Ord.each_cons (fun D xs w2 hD hC hP hR hA K hK => ?_) ?_
              · -- 4
                have q2 := Ord.ahead_get _ hA 2 (by decide)
                simp only [CkZ] at q2
                simp only [q2] at hK
                clear hA
                go_simp
                exact hK _ _ ⟨_, rfl, trivial, hR, rfl⟩
              refine Ord.each_cons (fun D xs w2 hD hC hP hR hA K hK => ?_) ?_
              · -- 5
                have q2 := Ord.ahead_get _ hA 2 (by decide)
                simp only [CkZ] at q2
                simp only [q2] at hK
                clear hA
                go_simp
                exact hK _ _ ⟨_, rfl, trivial, hR, rfl⟩
              refine Ord.each_cons (fun D xs w2 hD hC hP hR hA K hK => ?_) ?_
              · -- 6
                have q2 := Ord.ahead_get _ hA 2 (by decide)
                simp only [CkZ] at q2
                simp only [q2] at hK
                clear hA
                go_simp
                exact hK _ _ ⟨_, rfl, trivial, hR, rfl⟩
              refine Ord.each_cons (fun D xs w2 hD hC hP hR hA K hK => ?_) ?_
              · -- 7
                have q2 := Ord.ahead_get _ hA 2 (by decide)
                simp only [CkZ] at q2
                simp only [q2] at hK
                clear hA
                go_simp
                exact hK _ _ ⟨_, rfl, trivial, hR, rfl⟩
              refine Ord.each_cons (fun D xs w2 hD hC hP hR hA K hK => ?_) ?_
              · -- 8
                have q2 := Ord.ahead_get _ hA 2 (by decide)
                simp only [CkZ] at q2
                simp only [q2] at hK
                clear hA
                go_simp
                exact hK _ _ ⟨_, rfl, trivial, hR, rfl⟩
              refine Ord.each_cons (fun D xs w2 hD hC hP hR hA K hK => ?_) ?_
              · -- 9
                have q2 := Ord.ahead_get _ hA 2 (by decide)
                simp only [CkZ] at q2
                simp only [q2] at hK
                clear hA
                go_simp
                exact hK _ _ ⟨_, rfl, trivial, hR, rfl⟩
              refine Ord.each_cons (fun D xs w2 hD hC hP hR hA K hK => ?_) ?_
              · -- 10
                have q2 := Ord.ahead_get _ hA 2 (by decide)
                simp only [CkZ] at q2
                simp only [q2] at hK
                clear hA
                go_simp
                exact hK _ _ ⟨_, rfl, trivial, hR, rfl⟩
              refine Ord.each_cons (fun D xs w2 hD hC hP hR hA K hK => ?_) ?_
              · -- 11
                have q2 := Ord.ahead_get _ hA 2 (by decide)
                simp only [CkZ] at q2
                simp only [q2] at hK
                clear hA
                go_simp
                exact hK _ _ ⟨_, rfl, trivial, hR, rfl⟩
              refine Ord.each_cons (fun D xs w2 hD hC hP hR hA K hK => ?_) ?_
              · -- 12
                have q2 := Ord.ahead_get _ hA 2 (by decide)
                simp only [CkZ] at q2
                simp only [q2] at hK
                clear hA
                go_simp
                exact hK _ _ ⟨_, rfl, trivial, hR, rfl⟩
              refine Ord.each_cons (fun D xs w2 hD hC hP hR hA K hK => ?_) ?_
              · -- 13
                have q2 := Ord.ahead_get _ hA 2 (by decide)
                simp only [CkZ] at q2
                simp only [q2] at hK
                clear hA
                go_simp
                exact hK _ _ ⟨_, rfl, trivial, hR, rfl⟩
              exact Ord.each_nil
            case hendt1Z =>
              intro D7 xs7 w7 hR7 hF7
              have e7 := (hF7 13 (by decide)).2
              simp only [CkZ] at e7
              rw [e7]
              have HB7 : Hid (Below wc.heap.size wc w7) := HC6.out.trans (hR7.mono HC6.out.size)
              clear e7 hF7
              generalize xs7 0 = y0 at *
              generalize xs7 1 = y1 at *
              generalize xs7 2 = y2 at *
              generalize xs7 3 = y3 at *
              generalize xs7 4 = y4 at *
              generalize xs7 5 = y5 at *
              generalize xs7 6 = y6 at *
              generalize xs7 7 = y7 at *
              generalize xs7 8 = y8 at *
              generalize xs7 9 = y9 at *
              generalize xs7 10 = y10 at *
              generalize xs7 11 = y11 at *
              generalize xs7 12 = y12 at *
              have HB7w : Hid (Below W6.heap.size W6 w7) := hR7
              clear hR7
              cases hx1 : Pg.same (Pg.openN b) (Pg.openL b) (Pg.openN (LB k)) (Pg.openL (LB k)) with
              | true =>
                have HX1 := Lib.hid hx1
                clear hx1 HOR
                go_upto_region 25 with (fail)
                refine Ord.walk (CkB1 g9 c9 g10 c10 k (Pg.openN b) (Pg.openN (LB k)) (Pg.openN (NB k)) (.slice pu (Pg.openL b).length cu) (.slice p9 z9 d9) (.slice p10 z10 d10) (.slice p l.length cap)) (fun _ _ w' => Below W6.heap.size W6 w') (fun _ _ => True)
                  (by kernel_rfl) (by kernel_rfl) ?frt1m1 ?hfrt1m1 (fun _ _ _ _ _ h => h) (fun xs => HB7w.out.go1) ?het1m1 ?hendt1m1
                case hfrt1m1 =>
                  intro xs
                  simp only [Ord.fill, Act.put, List.setIfInBounds_toArray, List.set_cons_zero, List.set_cons_succ]
                  rfl
                case het1m1 =>
                  refine Ord.each_cons (fun D xs w2 hD hC hP hR hA K hK => ?_) ?_
                  · -- 0
                    clear hA
                    go_simp
                    exact hK _ _ ⟨_, rfl, trivial, hR, rfl⟩
                  refine Ord.each_cons (fun D xs w2 hD hC hP hR hA K hK => ?_) ?_
                  · -- 1
                    have q0 := Ord.ahead_get _ hA 0 (by decide)
                    simp only [CkB1] at q0
                    simp only [q0] at hK
                    clear hA
                    go_simp
                    exact hK _ _ ⟨_, rfl, trivial, hR, rfl⟩
                  refine Ord.each_cons (fun D xs w2 hD hC hP hR hA K hK => ?_) ?_
                  · -- 2
                    have q1 := Ord.ahead_get _ hA 1 (by decide)
                    simp only [CkB1] at q1
                    simp only [q1] at hK
                    clear hA
                    go_simp
                    exact hK _ _ ⟨_, rfl, trivial, hR, rfl⟩
                  refine Ord.each_cons (fun D xs w2 hD hC hP hR hA K hK => ?_) ?_
                  · -- 3
                    have q2 := Ord.ahead_get _ hA 2 (by decide)
                    simp only [CkB1] at q2
                    simp only [q2] at hK
                    clear hA
                    have c0 := hR.cell (p := ⟨X, 0, none⟩) HXL.out
                    rw [HXP0.out] at c0
                    have c1 := hR.cell (p := ⟨X, 1, none⟩) HXL.out
                    rw [HXP1.out] at c1
                    go_simp
                    exact hK _ _ ⟨_, rfl, trivial, hR, rfl⟩
                  refine Ord.each_cons (fun D xs w2 hD hC hP hR hA K hK => ?_) ?_
                  · -- 4
                    have q2 := Ord.ahead_get _ hA 2 (by decide)
                    simp only [CkB1] at q2
                    simp only [q2] at hK
                    clear hA
                    go_simp
                    exact hK _ _ ⟨_, rfl, trivial, hR, rfl⟩
                  refine Ord.each_cons (fun D xs w2 hD hC hP hR hA K hK => ?_) ?_
                  · -- 5
                    have q2 := Ord.ahead_get _ hA 2 (by decide)
                    simp only [CkB1] at q2
                    simp only [q2] at hK
                    clear hA
                    go_simp
                    exact hK _ _ ⟨_, rfl, trivial, hR, rfl⟩
                  refine Ord.each_cons (fun D xs w2 hD hC hP hR hA K hK => ?_) ?_
                  · -- 6
                    have q4 := Ord.ahead_get _ hA 4 (by decide)
                    simp only [CkB1] at q4
                    have q5 := Ord.ahead_get _ hA 5 (by decide)
                    simp only [CkB1] at q5
                    have q2 := Ord.ahead_get _ hA 2 (by decide)
                    simp only [CkB1] at q2
                    simp only [q4, q5, q2] at hK
                    clear hA
                    have hk1 := HKI.out.1
                    have hk2 := HKI.out.2
                    go_simp
                    exact hK _ _ ⟨_, rfl, trivial, hR, rfl⟩
                  refine Ord.each_cons (fun D xs w2 hD hC hP hR hA K hK => ?_) ?_
                  · -- 7
                    have q6 := Ord.ahead_get _ hA 6 (by decide)
                    simp only [CkB1] at q6
                    have q2 := Ord.ahead_get _ hA 2 (by decide)
                    simp only [CkB1] at q2
                    simp only [q6, q2] at hK
                    clear hA
                    have c0 := hR.cell (p := ⟨g9, k * 2, none⟩) HNL.out
                    rw [HN0.out] at c0
                    have c1 := hR.cell (p := ⟨g9, k * 2 + 1, none⟩) HNL.out
                    rw [HN1.out] at c1
                    go_simp
                    exact hK _ _ ⟨_, rfl, trivial, hR, rfl⟩
                  refine Ord.each_cons (fun D xs w2 hD hC hP hR hA K hK => ?_) ?_
                  · -- 8
                    have q3 := Ord.ahead_get _ hA 3 (by decide)
                    simp only [CkB1] at q3
                    have q7 := Ord.ahead_get _ hA 7 (by decide)
                    simp only [CkB1] at q7
                    have q2 := Ord.ahead_get _ hA 2 (by decide)
                    simp only [CkB1] at q2
                    simp only [q3, q7, q2] at hK
                    clear hA
                    go_simp
                    refine (refSame_any (Pg.openN b) (Pg.openN (LB k)) _ _ (Pg.openL b) (Pg.openL (LB k)) w2 (HPB.out.below hR) (HNB.out.below hR)).mono ?_
                    rintro e w' ⟨rfl, hb⟩
                    rw [HX1.out]
                    exact hK _ _ ⟨_, rfl, trivial, hR.trans (hb.mono hR.size), rfl⟩
                  refine Ord.each_cons (fun D xs w2 hD hC hP hR hA K hK => ?_) ?_
                  · -- 9
                    have q8 := Ord.ahead_get _ hA 8 (by decide)
                    simp only [CkB1] at q8
                    have q2 := Ord.ahead_get _ hA 2 (by decide)
                    simp only [CkB1] at q2
                    simp only [q8, q2] at hK
                    clear hA
                    go_simp
                    exact hK _ _ ⟨_, rfl, trivial, hR, rfl⟩
                  refine Ord.each_cons (fun D xs w2 hD hC hP hR hA K hK => ?_) ?_
                  · -- 10
                    have q9 := Ord.ahead_get _ hA 9 (by decide)
                    simp only [CkB1] at q9
                    have q2 := Ord.ahead_get _ hA 2 (by decide)
                    simp only [CkB1] at q2
                    simp only [q9, q2] at hK
                    clear hA
                    go_simp
                    exact hK _ _ ⟨_, rfl, trivial, hR, rfl⟩
                  refine Ord.each_cons (fun D xs w2 hD hC hP hR hA K hK => ?_) ?_
                  · -- 11
                    have q10 := Ord.ahead_get _ hA 10 (by decide)
                    simp only [CkB1] at q10
                    simp only [q10] at hK
                    clear hA
                    go_simp
                    exact hK _ _ ⟨_, rfl, trivial, hR, rfl⟩
                  refine Ord.each_cons (fun D xs w2 hD hC hP hR hA K hK => ?_) ?_
                  · -- 12
                    have q10 := Ord.ahead_get _ hA 10 (by decide)
                    simp only [CkB1] at q10
                    simp only [q10] at hK
                    clear hA
                    go_simp
                    exact hK _ _ ⟨_, rfl, trivial, hR, rfl⟩
                  refine Ord.each_cons (fun D xs w2 hD hC hP hR hA K hK => ?_) ?_
                  · -- 13
                    have q10 := Ord.ahead_get _ hA 10 (by decide)
                    simp only [CkB1] at q10
                    simp only [q10] at hK
                    clear hA
                    go_simp
                    exact hK _ _ ⟨_, rfl, trivial, hR, rfl⟩
                  refine Ord.each_cons (fun D xs w2 hD hC hP hR hA K hK => ?_) ?_
                  · -- 14
                    have q10 := Ord.ahead_get _ hA 10 (by decide)
                    simp only [CkB1] at q10
                    simp only [q10] at hK
                    clear hA
                    go_simp
                    exact hK _ _ ⟨_, rfl, trivial, hR, rfl⟩
                  refine Ord.each_cons (fun D xs w2 hD hC hP hR hA K hK => ?_) ?_
                  · -- 15
                    have q10 := Ord.ahead_get _ hA 10 (by decide)
                    simp only [CkB1] at q10
                    simp only [q10] at hK
                    clear hA
                    go_simp
                    exact hK _ _ ⟨_, rfl, trivial, hR, rfl⟩
                  refine Ord.each_cons (fun D xs w2 hD hC hP hR hA K hK => ?_) ?_
                  · -- 16
                    have q10 := Ord.ahead_get _ hA 10 (by decide)
                    simp only [CkB1] at q10
                    simp only [q10] at hK
                    clear hA
                    go_simp
                    exact hK _ _ ⟨_, rfl, trivial, hR, rfl⟩
                  refine Ord.each_cons (fun D xs w2 hD hC hP hR hA K hK => ?_) ?_
                  · -- 17
                    have q10 := Ord.ahead_get _ hA 10 (by decide)
                    simp only [CkB1] at q10
                    simp only [q10] at hK
                    clear hA
                    go_simp
                    exact hK _ _ ⟨_, rfl, trivial, hR, rfl⟩
                  refine Ord.each_cons (fun D xs w2 hD hC hP hR hA K hK => ?_) ?_
                  · -- 18
                    have q10 := Ord.ahead_get _ hA 10 (by decide)
                    simp only [CkB1] at q10
                    have q2 := Ord.ahead_get _ hA 2 (by decide)
                    simp only [CkB1] at q2
                    simp only [q10, q2] at hK
                    clear hA
                    go_simp
                    exact hK _ _ ⟨_, rfl, trivial, hR, rfl⟩
                  refine Ord.each_cons (fun D xs w2 hD hC hP hR hA K hK => ?_) ?_
                  · -- 19
                    have q18 := Ord.ahead_get _ hA 18 (by decide)
                    simp only [CkB1] at q18
                    have q2 := Ord.ahead_get _ hA 2 (by decide)
                    simp only [CkB1] at q2
                    simp only [q18, q2] at hK
                    clear hA
                    go_simp
                    exact hK _ _ ⟨_, rfl, trivial, hR, rfl⟩
                  refine Ord.each_cons (fun D xs w2 hD hC hP hR hA K hK => ?_) ?_
                  · -- 20
                    have q19 := Ord.ahead_get _ hA 19 (by decide)
                    simp only [CkB1] at q19
                    simp only [q19] at hK
                    clear hA
                    go_simp
                    exact hK _ _ ⟨_, rfl, trivial, hR, rfl⟩
                  refine Ord.each_cons (fun D xs w2 hD hC hP hR hA K hK => ?_) ?_
                  · -- 21
                    have q19 := Ord.ahead_get _ hA 19 (by decide)
                    simp only [CkB1] at q19
                    simp only [q19] at hK
                    clear hA
                    go_simp
                    exact hK _ _ ⟨_, rfl, trivial, hR, rfl⟩
                  refine Ord.each_cons (fun D xs w2 hD hC hP hR hA K hK => ?_) ?_
                  · -- 22
                    have q19 := Ord.ahead_get _ hA 19 (by decide)
                    simp only [CkB1] at q19
                    simp only [q19] at hK
                    clear hA
                    go_simp
                    exact hK _ _ ⟨_, rfl, trivial, hR, rfl⟩
                  refine Ord.each_cons (fun D xs w2 hD hC hP hR hA K hK => ?_) ?_
                  · -- 23
                    have q19 := Ord.ahead_get _ hA 19 (by decide)
                    simp only [CkB1] at q19
                    simp only [q19] at hK
                    clear hA
                    go_simp
                    exact hK _ _ ⟨_, rfl, trivial, hR, rfl⟩
                  refine Ord.each_cons (fun D xs w2 hD hC hP hR hA K hK => ?_) ?_
                  · -- 24
                    have q19 := Ord.ahead_get _ hA 19 (by decide)
                    simp only [CkB1] at q19
                    simp only [q19] at hK
                    clear hA
                    go_simp
                    exact hK _ _ ⟨_, rfl, trivial, hR, rfl⟩
                  refine Ord.each_cons (fun D xs w2 hD hC hP hR hA K hK => ?_) ?_
                  · -- 25
                    have q19 := Ord.ahead_get _ hA 19 (by decide)
                    simp only [CkB1] at q19
                    have q2 := Ord.ahead_get _ hA 2 (by decide)
                    simp only [CkB1] at q2
                    simp only [q19, q2] at hK
                    clear hA
                    go_simp
                    exact hK _ _ ⟨_, rfl, trivial, hR, rfl⟩
                  refine Ord.each_cons (fun D xs w2 hD hC hP hR hA K hK => ?_) ?_
                  · -- 26
                    have q2 := Ord.ahead_get _ hA 2 (by decide)
                    simp only [CkB1] at q2
                    have q25 := Ord.ahead_get _ hA 25 (by decide)
                    simp only [CkB1] at q25
                    simp only [q2, q25] at hK
                    clear hA
                    go_simp
                    exact hK _ _ ⟨_, rfl, trivial, hR, rfl⟩
                  exact Ord.each_nil
                case hendt1m1 =>
                  intro D7 xs7 w7 hR7 hF7
                  have e7 := (hF7 26 (by decide)).2
                  simp only [CkB1] at e7
                  rw [e7]
                  have HB7 : Hid (Below wc.heap.size wc w7) := HC6.out.trans (hR7.mono HC6.out.size)
                  clear e7 hF7
                  generalize xs7 0 = y0 at *
                  generalize xs7 1 = y1 at *
                  generalize xs7 2 = y2 at *
                  generalize xs7 3 = y3 at *
                  generalize xs7 4 = y4 at *
                  generalize xs7 5 = y5 at *
                  generalize xs7 6 = y6 at *
                  generalize xs7 7 = y7 at *
                  generalize xs7 8 = y8 at *
                  generalize xs7 9 = y9 at *
                  generalize xs7 10 = y10 at *
                  generalize xs7 11 = y11 at *
                  generalize xs7 12 = y12 at *
                  generalize xs7 13 = y13 at *
                  generalize xs7 14 = y14 at *
                  generalize xs7 15 = y15 at *
                  generalize xs7 16 = y16 at *
                  generalize xs7 17 = y17 at *
                  generalize xs7 18 = y18 at *
                  generalize xs7 19 = y19 at *
                  generalize xs7 20 = y20 at *
                  generalize xs7 21 = y21 at *
                  generalize xs7 22 = y22 at *
                  generalize xs7 23 = y23 at *
                  generalize xs7 24 = y24 at *
                  generalize xs7 25 = y25 at *
                  clear hR7
                  go_wp2_with fail
                  go_roundw
                  case rel => exact ⟨k + 1, by omega, by go_num, HB7.out⟩
                  case measure => simp [intOf]; omega
              | false =>
                have HX1 := Lib.hid hx1
                have hmx : Pg.form (Pg.openN b) (Pg.openL b) = b ∧ Pg.Mixed l K k b := by
                  rcases HOR.out with e | e
                  · rw [e, Pg.same_self] at hx1; cases hx1
                  · exact e
                have H500 := Lib.hid (Pg.openL_length HE0.out)
                have HMX : Hid (Pg.Mixed l K k (Pg.form (Pg.openN b) (Pg.openL b))) := by show Pg.Mixed _ _ _ _; rw [hmx.1]; exact hmx.2
                clear hx1 hmx HOR
                cases hx2 : Pg.same (Pg.openN b) (Pg.openL b) (Pg.openN (NB k)) (Pg.openL (NB k)) with
                | true =>
                  have HX2 := Lib.hid hx2
                  clear hx2
                  go_upto_region 25 with (fail)
                  refine Ord.walk (CkB2 g9 c9 g10 c10 k (Pg.openN b) (Pg.openN (LB k)) (Pg.openN (NB k)) (.slice pu (Pg.openL b).length cu) (.slice p9 z9 d9) (.slice p10 z10 d10) (.slice p l.length cap)) (fun _ _ w' => Below W6.heap.size W6 w') (fun _ _ => True)
                    (by kernel_rfl) (by kernel_rfl) ?frt1m2 ?hfrt1m2 (fun _ _ _ _ _ h => h) (fun xs => HB7w.out.go1) ?het1m2 ?hendt1m2
                  case hfrt1m2 =>
                    intro xs
                    simp only [Ord.fill, Act.put, List.setIfInBounds_toArray, List.set_cons_zero, List.set_cons_succ]
                    rfl
                  case het1m2 =>
                    refine Ord.each_cons (fun D xs w2 hD hC hP hR hA K hK => ?_) ?_
                    · -- 0
                      clear hA
                      go_simp
                      exact hK _ _ ⟨_, rfl, trivial, hR, rfl⟩
                    refine Ord.each_cons (fun D xs w2 hD hC hP hR hA K hK => ?_) ?_
                    · -- 1
                      have q0 := Ord.ahead_get _ hA 0 (by decide)
                      simp only [CkB2] at q0
                      simp only [q0] at hK
                      clear hA
                      go_simp
                      exact hK _ _ ⟨_, rfl, trivial, hR, rfl⟩
                    refine Ord.each_cons (fun D xs w2 hD hC hP hR hA K hK => ?_) ?_
                    · -- 2
                      have q1 := Ord.ahead_get _ hA 1 (by decide)
                      simp only [CkB2] at q1
                      simp only [q1] at hK
                      clear hA
                      go_simp
                      exact hK _ _ ⟨_, rfl, trivial, hR, rfl⟩
                    refine Ord.each_cons (fun D xs w2 hD hC hP hR hA K hK => ?_) ?_
                    · -- 3
                      have q2 := Ord.ahead_get _ hA 2 (by decide)
                      simp only [CkB2] at q2
                      simp only [q2] at hK
                      clear hA
                      have c0 := hR.cell (p := ⟨X, 0, none⟩) HXL.out
                      rw [HXP0.out] at c0
                      have c1 := hR.cell (p := ⟨X, 1, none⟩) HXL.out
                      rw [HXP1.out] at c1
                      go_simp
                      exact hK _ _ ⟨_, rfl, trivial, hR, rfl⟩
                    refine Ord.each_cons (fun D xs w2 hD hC hP hR hA K hK => ?_) ?_
                    · -- 4
                      have q2 := Ord.ahead_get _ hA 2 (by decide)
                      simp only [CkB2] at q2
                      simp only [q2] at hK
                      clear hA
                      go_simp
                      exact hK _ _ ⟨_, rfl, trivial, hR, rfl⟩
                    refine Ord.each_cons (fun D xs w2 hD hC hP hR hA K hK => ?_) ?_
                    · -- 5
                      have q2 := Ord.ahead_get _ hA 2 (by decide)
                      simp only [CkB2] at q2
                      simp only [q2] at hK
                      clear hA
                      go_simp
                      exact hK _ _ ⟨_, rfl, trivial, hR, rfl⟩
                    refine Ord.each_cons (fun D xs w2 hD hC hP hR hA K hK => ?_) ?_
                    · -- 6
                      have q4 := Ord.ahead_get _ hA 4 (by decide)
                      simp only [CkB2] at q4
                      have q5 := Ord.ahead_get _ hA 5 (by decide)
                      simp only [CkB2] at q5
                      have q2 := Ord.ahead_get _ hA 2 (by decide)
                      simp only [CkB2] at q2
                      simp only [q4, q5, q2] at hK
                      clear hA
                      have hk1 := HKI.out.1
                      have hk2 := HKI.out.2
                      go_simp
                      exact hK _ _ ⟨_, rfl, trivial, hR, rfl⟩
                    refine Ord.each_cons (fun D xs w2 hD hC hP hR hA K hK => ?_) ?_
                    · -- 7
                      have q6 := Ord.ahead_get _ hA 6 (by decide)
                      simp only [CkB2] at q6
                      have q2 := Ord.ahead_get _ hA 2 (by decide)
                      simp only [CkB2] at q2
                      simp only [q6, q2] at hK
                      clear hA
                      have c0 := hR.cell (p := ⟨g9, k * 2, none⟩) HNL.out
                      rw [HN0.out] at c0
                      have c1 := hR.cell (p := ⟨g9, k * 2 + 1, none⟩) HNL.out
                      rw [HN1.out] at c1
                      go_simp
                      exact hK _ _ ⟨_, rfl, trivial, hR, rfl⟩
                    refine Ord.each_cons (fun D xs w2 hD hC hP hR hA K hK => ?_) ?_
                    · -- 8
                      have q3 := Ord.ahead_get _ hA 3 (by decide)
                      simp only [CkB2] at q3
                      have q7 := Ord.ahead_get _ hA 7 (by decide)
                      simp only [CkB2] at q7
                      have q2 := Ord.ahead_get _ hA 2 (by decide)
                      simp only [CkB2] at q2
                      simp only [q3, q7, q2] at hK
                      clear hA
                      go_simp
                      refine (refSame_any (Pg.openN b) (Pg.openN (LB k)) _ _ (Pg.openL b) (Pg.openL (LB k)) w2 (HPB.out.below hR) (HNB.out.below hR)).mono ?_
                      rintro e w' ⟨rfl, hb⟩
                      rw [HX1.out]
                      exact hK _ _ ⟨_, rfl, trivial, hR.trans (hb.mono hR.size), rfl⟩
                    refine Ord.each_cons (fun D xs w2 hD hC hP hR hA K hK => ?_) ?_
                    · -- 9
                      have q8 := Ord.ahead_get _ hA 8 (by decide)
                      simp only [CkB2] at q8
                      have q2 := Ord.ahead_get _ hA 2 (by decide)
                      simp only [CkB2] at q2
                      simp only [q8, q2] at hK
                      clear hA
                      go_simp
                      exact hK _ _ ⟨_, rfl, trivial, hR, rfl⟩
                    refine Ord.each_cons (fun D xs w2 hD hC hP hR hA K hK => ?_) ?_
                    · -- 10
                      have q9 := Ord.ahead_get _ hA 9 (by decide)
                      simp only [CkB2] at q9
                      have q2 := Ord.ahead_get _ hA 2 (by decide)
                      simp only [CkB2] at q2
                      simp only [q9, q2] at hK
                      clear hA
                      go_simp
                      exact hK _ _ ⟨_, rfl, trivial, hR, rfl⟩
                    refine Ord.each_cons (fun D xs w2 hD hC hP hR hA K hK => ?_) ?_
                    · -- 11
                      have q10 := Ord.ahead_get _ hA 10 (by decide)
                      simp only [CkB2] at q10
                      simp only [q10] at hK
                      clear hA
                      have c0 := hR.cell (p := ⟨X, 0, none⟩) HXL.out
                      rw [HXP0.out] at c0
                      have c1 := hR.cell (p := ⟨X, 1, none⟩) HXL.out
                      rw [HXP1.out] at c1
                      go_simp
                      exact hK _ _ ⟨_, rfl, trivial, hR, rfl⟩
                    refine Ord.each_cons (fun D xs w2 hD hC hP hR hA K hK => ?_) ?_
                    · -- 12
                      have q10 := Ord.ahead_get _ hA 10 (by decide)
                      simp only [CkB2] at q10
                      simp only [q10] at hK
                      clear hA
                      go_simp
                      exact hK _ _ ⟨_, rfl, trivial, hR, rfl⟩
                    refine Ord.each_cons (fun D xs w2 hD hC hP hR hA K hK => ?_) ?_
                    · -- 13
                      have q10 := Ord.ahead_get _ hA 10 (by decide)
                      simp only [CkB2] at q10
                      simp only [q10] at hK
                      clear hA
                      go_simp
                      exact hK _ _ ⟨_, rfl, trivial, hR, rfl⟩
                    refine Ord.each_cons (fun D xs w2 hD hC hP hR hA K hK => ?_) ?_
                    · -- 14
                      have q12 := Ord.ahead_get _ hA 12 (by decide)
                      simp only [CkB2] at q12
                      have q13 := Ord.ahead_get _ hA 13 (by decide)
                      simp only [CkB2] at q13
                      have q10 := Ord.ahead_get _ hA 10 (by decide)
                      simp only [CkB2] at q10
                      simp only [q12, q13, q10] at hK
                      clear hA
                      have hk1 := HKI.out.1
                      have hk2 := HKI.out.2
                      go_simp
                      exact hK _ _ ⟨_, rfl, trivial, hR, rfl⟩
                    refine Ord.each_cons (fun D xs w2 hD hC hP hR hA K hK => ?_) ?_
                    · -- 15
                      have q14 := Ord.ahead_get _ hA 14 (by decide)
                      simp only [CkB2] at q14
                      have q10 := Ord.ahead_get _ hA 10 (by decide)
                      simp only [CkB2] at q10
                      simp only [q14, q10] at hK
                      clear hA
                      have c0 := hR.cell (p := ⟨g10, k * 2, none⟩) HTL.out
                      rw [HT0.out] at c0
                      have c1 := hR.cell (p := ⟨g10, k * 2 + 1, none⟩) HTL.out
                      rw [HT1.out] at c1
                      go_simp
                      exact hK _ _ ⟨_, rfl, trivial, hR, rfl⟩
                    refine Ord.each_cons (fun D xs w2 hD hC hP hR hA K hK => ?_) ?_
                    · -- 16
                      have q11 := Ord.ahead_get _ hA 11 (by decide)
                      simp only [CkB2] at q11
                      have q15 := Ord.ahead_get _ hA 15 (by decide)
                      simp only [CkB2] at q15
                      have q10 := Ord.ahead_get _ hA 10 (by decide)
                      simp only [CkB2] at q10
                      simp only [q11, q15, q10] at hK
                      clear hA
                      go_simp
                      refine (refSame_any (Pg.openN b) (Pg.openN (NB k)) _ _ (Pg.openL b) (Pg.openL (NB k)) w2 (HPB.out.below hR) (HTB.out.below hR)).mono ?_
                      rintro e w' ⟨rfl, hb⟩
                      rw [HX2.out]
                      exact hK _ _ ⟨_, rfl, trivial, hR.trans (hb.mono hR.size), rfl⟩
                    refine Ord.each_cons (fun D xs w2 hD hC hP hR hA K hK => ?_) ?_
                    · -- 17
                      have q16 := Ord.ahead_get _ hA 16 (by decide)
                      simp only [CkB2] at q16
                      have q10 := Ord.ahead_get _ hA 10 (by decide)
                      simp only [CkB2] at q10
                      simp only [q16, q10] at hK
                      clear hA
                      go_simp
                      exact hK _ _ ⟨_, rfl, trivial, hR, rfl⟩
                    refine Ord.each_cons (fun D xs w2 hD hC hP hR hA K hK => ?_) ?_
                    · -- 18
                      have q10 := Ord.ahead_get _ hA 10 (by decide)
                      simp only [CkB2] at q10
                      have q17 := Ord.ahead_get _ hA 17 (by decide)
                      simp only [CkB2] at q17
                      have q2 := Ord.ahead_get _ hA 2 (by decide)
                      simp only [CkB2] at q2
                      simp only [q10, q17, q2] at hK
                      clear hA
                      go_simp
                      exact hK _ _ ⟨_, rfl, trivial, hR, rfl⟩
                    refine Ord.each_cons (fun D xs w2 hD hC hP hR hA K hK => ?_) ?_
                    · -- 19
                      have q18 := Ord.ahead_get _ hA 18 (by decide)
                      simp only [CkB2] at q18
                      have q2 := Ord.ahead_get _ hA 2 (by decide)
                      simp only [CkB2] at q2
                      simp only [q18, q2] at hK
                      clear hA
                      go_simp
                      exact hK _ _ ⟨_, rfl, trivial, hR, rfl⟩
                    refine Ord.each_cons (fun D xs w2 hD hC hP hR hA K hK => ?_) ?_
                    · -- 20
                      have q19 := Ord.ahead_get _ hA 19 (by decide)
                      simp only [CkB2] at q19
                      simp only [q19] at hK
                      clear hA
                      go_simp
                      exact hK _ _ ⟨_, rfl, trivial, hR, rfl⟩
                    refine Ord.each_cons (fun D xs w2 hD hC hP hR hA K hK => ?_) ?_
                    · -- 21
                      have q19 := Ord.ahead_get _ hA 19 (by decide)
                      simp only [CkB2] at q19
                      simp only [q19] at hK
                      clear hA
                      go_simp
                      exact hK _ _ ⟨_, rfl, trivial, hR, rfl⟩
                    refine Ord.each_cons (fun D xs w2 hD hC hP hR hA K hK => ?_) ?_
                    · -- 22
                      have q19 := Ord.ahead_get _ hA 19 (by decide)
                      simp only [CkB2] at q19
                      simp only [q19] at hK
                      clear hA
                      go_simp
                      exact hK _ _ ⟨_, rfl, trivial, hR, rfl⟩
                    refine Ord.each_cons (fun D xs w2 hD hC hP hR hA K hK => ?_) ?_
                    · -- 23
                      have q19 := Ord.ahead_get _ hA 19 (by decide)
                      simp only [CkB2] at q19
                      simp only [q19] at hK
                      clear hA
                      go_simp
                      exact hK _ _ ⟨_, rfl, trivial, hR, rfl⟩
                    refine Ord.each_cons (fun D xs w2 hD hC hP hR hA K hK => ?_) ?_
                    · -- 24
                      have q19 := Ord.ahead_get _ hA 19 (by decide)
                      simp only [CkB2] at q19
                      simp only [q19] at hK
                      clear hA
                      go_simp
                      exact hK _ _ ⟨_, rfl, trivial, hR, rfl⟩
                    refine Ord.each_cons (fun D xs w2 hD hC hP hR hA K hK => ?_) ?_
                    · -- 25
                      have q19 := Ord.ahead_get _ hA 19 (by decide)
                      simp only [CkB2] at q19
                      have q2 := Ord.ahead_get _ hA 2 (by decide)
                      simp only [CkB2] at q2
                      simp only [q19, q2] at hK
                      clear hA
                      go_simp
                      exact hK _ _ ⟨_, rfl, trivial, hR, rfl⟩
                    refine Ord.each_cons (fun D xs w2 hD hC hP hR hA K hK => ?_) ?_
                    · -- 26
                      have q2 := Ord.ahead_get _ hA 2 (by decide)
                      simp only [CkB2] at q2
                      have q25 := Ord.ahead_get _ hA 25 (by decide)
                      simp only [CkB2] at q25
                      simp only [q2, q25] at hK
                      clear hA
                      go_simp
                      exact hK _ _ ⟨_, rfl, trivial, hR, rfl⟩
                    exact Ord.each_nil
                  case hendt1m2 =>
                    intro D7 xs7 w7 hR7 hF7
                    have e7 := (hF7 26 (by decide)).2
                    simp only [CkB2] at e7
                    rw [e7]
                    have HB7 : Hid (Below wc.heap.size wc w7) := HC6.out.trans (hR7.mono HC6.out.size)
                    clear e7 hF7
                    generalize xs7 0 = y0 at *
                    generalize xs7 1 = y1 at *
                    generalize xs7 2 = y2 at *
                    generalize xs7 3 = y3 at *
                    generalize xs7 4 = y4 at *
                    generalize xs7 5 = y5 at *
                    generalize xs7 6 = y6 at *
                    generalize xs7 7 = y7 at *
                    generalize xs7 8 = y8 at *
                    generalize xs7 9 = y9 at *
                    generalize xs7 10 = y10 at *
                    generalize xs7 11 = y11 at *
                    generalize xs7 12 = y12 at *
                    generalize xs7 13 = y13 at *
                    generalize xs7 14 = y14 at *
                    generalize xs7 15 = y15 at *
                    generalize xs7 16 = y16 at *
                    generalize xs7 17 = y17 at *
                    generalize xs7 18 = y18 at *
                    generalize xs7 19 = y19 at *
                    generalize xs7 20 = y20 at *
                    generalize xs7 21 = y21 at *
                    generalize xs7 22 = y22 at *
                    generalize xs7 23 = y23 at *
                    generalize xs7 24 = y24 at *
                    generalize xs7 25 = y25 at *
                    clear hR7
                    go_wp2_with fail
                    go_roundw
                    case rel => exact ⟨k + 1, by omega, by go_num, HB7.out⟩
                    case measure => simp [intOf]; omega
                | false =>
                  have HX2 := Lib.hid hx2
                  clear hx2
                  go_upto_region 25 with (fail)
                  refine Ord.walk (CkB3 g9 c9 g10 c10 k (Pg.openN b) (Pg.openN (LB k)) (Pg.openN (NB k)) (.slice pu (Pg.openL b).length cu) (.slice p9 z9 d9) (.slice p10 z10 d10) (.slice p l.length cap)) (fun _ _ w' => Below W6.heap.size W6 w') (fun _ _ => True)
                    (by kernel_rfl) (by kernel_rfl) ?frt1m3 ?hfrt1m3 (fun _ _ _ _ _ h => h) (fun xs => HB7w.out.go1) ?het1m3 ?hendt1m3
                  case hfrt1m3 =>
                    intro xs
                    simp only [Ord.fill, Act.put, List.setIfInBounds_toArray, List.set_cons_zero, List.set_cons_succ]
                    rfl
                  case het1m3 =>
                    refine Ord.each_cons (fun D xs w2 hD hC hP hR hA K hK => ?_) ?_
                    · -- 0
                      clear hA
                      go_simp
                      exact hK _ _ ⟨_, rfl, trivial, hR, rfl⟩
                    refine Ord.each_cons (fun D xs w2 hD hC hP hR hA K hK => ?_) ?_
                    · -- 1
                      have q0 := Ord.ahead_get _ hA 0 (by decide)
                      simp only [CkB3] at q0
                      simp only [q0] at hK
                      clear hA
                      go_simp
                      exact hK _ _ ⟨_, rfl, trivial, hR, rfl⟩
                    refine Ord.each_cons (fun D xs w2 hD hC hP hR hA K hK => ?_) ?_
                    · -- 2
                      have q1 := Ord.ahead_get _ hA 1 (by decide)
                      simp only [CkB3] at q1
                      simp only [q1] at hK
                      clear hA
                      go_simp
                      exact hK _ _ ⟨_, rfl, trivial, hR, rfl⟩
                    refine Ord.each_cons (fun D xs w2 hD hC hP hR hA K hK => ?_) ?_
                    · -- 3
                      have q2 := Ord.ahead_get _ hA 2 (by decide)
                      simp only [CkB3] at q2
                      simp only [q2] at hK
                      clear hA
                      have c0 := hR.cell (p := ⟨X, 0, none⟩) HXL.out
                      rw [HXP0.out] at c0
                      have c1 := hR.cell (p := ⟨X, 1, none⟩) HXL.out
                      rw [HXP1.out] at c1
                      go_simp
                      exact hK _ _ ⟨_, rfl, trivial, hR, rfl⟩
                    refine Ord.each_cons (fun D xs w2 hD hC hP hR hA K hK => ?_) ?_
                    · -- 4
                      have q2 := Ord.ahead_get _ hA 2 (by decide)
                      simp only [CkB3] at q2
                      simp only [q2] at hK
                      clear hA
                      go_simp
                      exact hK _ _ ⟨_, rfl, trivial, hR, rfl⟩
                    refine Ord.each_cons (fun D xs w2 hD hC hP hR hA K hK => ?_) ?_
                    · -- 5
                      have q2 := Ord.ahead_get _ hA 2 (by decide)
                      simp only [CkB3] at q2
                      simp only [q2] at hK
                      clear hA
                      go_simp
                      exact hK _ _ ⟨_, rfl, trivial, hR, rfl⟩
                    refine Ord.each_cons (fun D xs w2 hD hC hP hR hA K hK => ?_) ?_
                    · -- 6
                      have q4 := Ord.ahead_get _ hA 4 (by decide)
                      simp only [CkB3] at q4
                      have q5 := Ord.ahead_get _ hA 5 (by decide)
                      simp only [CkB3] at q5
                      have q2 := Ord.ahead_get _ hA 2 (by decide)
                      simp only [CkB3] at q2
                      simp only [q4, q5, q2] at hK
                      clear hA
                      have hk1 := HKI.out.1
                      have hk2 := HKI.out.2
                      go_simp
                      exact hK _ _ ⟨_, rfl, trivial, hR, rfl⟩
                    refine Ord.each_cons (fun D xs w2 hD hC hP hR hA K hK => ?_) ?_
                    · -- 7
                      have q6 := Ord.ahead_get _ hA 6 (by decide)
                      simp only [CkB3] at q6
                      have q2 := Ord.ahead_get _ hA 2 (by decide)
                      simp only [CkB3] at q2
                      simp only [q6, q2] at hK
                      clear hA
                      have c0 := hR.cell (p := ⟨g9, k * 2, none⟩) HNL.out
                      rw [HN0.out] at c0
                      have c1 := hR.cell (p := ⟨g9, k * 2 + 1, none⟩) HNL.out
                      rw [HN1.out] at c1
                      go_simp
                      exact hK _ _ ⟨_, rfl, trivial, hR, rfl⟩
                    refine Ord.each_cons (fun D xs w2 hD hC hP hR hA K hK => ?_) ?_
                    · -- 8
                      have q3 := Ord.ahead_get _ hA 3 (by decide)
                      simp only [CkB3] at q3
                      have q7 := Ord.ahead_get _ hA 7 (by decide)
                      simp only [CkB3] at q7
                      have q2 := Ord.ahead_get _ hA 2 (by decide)
                      simp only [CkB3] at q2
                      simp only [q3, q7, q2] at hK
                      clear hA
                      go_simp
                      refine (refSame_any (Pg.openN b) (Pg.openN (LB k)) _ _ (Pg.openL b) (Pg.openL (LB k)) w2 (HPB.out.below hR) (HNB.out.below hR)).mono ?_
                      rintro e w' ⟨rfl, hb⟩
                      rw [HX1.out]
                      exact hK _ _ ⟨_, rfl, trivial, hR.trans (hb.mono hR.size), rfl⟩
                    refine Ord.each_cons (fun D xs w2 hD hC hP hR hA K hK => ?_) ?_
                    · -- 9
                      have q8 := Ord.ahead_get _ hA 8 (by decide)
                      simp only [CkB3] at q8
                      have q2 := Ord.ahead_get _ hA 2 (by decide)
                      simp only [CkB3] at q2
                      simp only [q8, q2] at hK
                      clear hA
                      go_simp
                      exact hK _ _ ⟨_, rfl, trivial, hR, rfl⟩
                    refine Ord.each_cons (fun D xs w2 hD hC hP hR hA K hK => ?_) ?_
                    · -- 10
                      have q9 := Ord.ahead_get _ hA 9 (by decide)
                      simp only [CkB3] at q9
                      have q2 := Ord.ahead_get _ hA 2 (by decide)
                      simp only [CkB3] at q2
                      simp only [q9, q2] at hK
                      clear hA
                      go_simp
                      exact hK _ _ ⟨_, rfl, trivial, hR, rfl⟩
                    refine Ord.each_cons (fun D xs w2 hD hC hP hR hA K hK => ?_) ?_
                    · -- 11
                      have q10 := Ord.ahead_get _ hA 10 (by decide)
                      simp only [CkB3] at q10
                      simp only [q10] at hK
                      clear hA
                      have c0 := hR.cell (p := ⟨X, 0, none⟩) HXL.out
                      rw [HXP0.out] at c0
                      have c1 := hR.cell (p := ⟨X, 1, none⟩) HXL.out
                      rw [HXP1.out] at c1
                      go_simp
                      exact hK _ _ ⟨_, rfl, trivial, hR, rfl⟩
                    refine Ord.each_cons (fun D xs w2 hD hC hP hR hA K hK => ?_) ?_
                    · -- 12
                      have q10 := Ord.ahead_get _ hA 10 (by decide)
                      simp only [CkB3] at q10
                      simp only [q10] at hK
                      clear hA
                      go_simp
                      exact hK _ _ ⟨_, rfl, trivial, hR, rfl⟩
                    refine Ord.each_cons (fun D xs w2 hD hC hP hR hA K hK => ?_) ?_
                    · -- 13
                      have q10 := Ord.ahead_get _ hA 10 (by decide)
                      simp only [CkB3] at q10
                      simp only [q10] at hK
                      clear hA
                      go_simp
                      exact hK _ _ ⟨_, rfl, trivial, hR, rfl⟩
                    refine Ord.each_cons (fun D xs w2 hD hC hP hR hA K hK => ?_) ?_
                    · -- 14
                      have q12 := Ord.ahead_get _ hA 12 (by decide)
                      simp only [CkB3] at q12
                      have q13 := Ord.ahead_get _ hA 13 (by decide)
                      simp only [CkB3] at q13
                      have q10 := Ord.ahead_get _ hA 10 (by decide)
                      simp only [CkB3] at q10
                      simp only [q12, q13, q10] at hK
                      clear hA
                      have hk1 := HKI.out.1
                      have hk2 := HKI.out.2
                      go_simp
                      exact hK _ _ ⟨_, rfl, trivial, hR, rfl⟩
                    refine Ord.each_cons (fun D xs w2 hD hC hP hR hA K hK => ?_) ?_
                    · -- 15
                      have q14 := Ord.ahead_get _ hA 14 (by decide)
                      simp only [CkB3] at q14
                      have q10 := Ord.ahead_get _ hA 10 (by decide)
                      simp only [CkB3] at q10
                      simp only [q14, q10] at hK
                      clear hA
                      have c0 := hR.cell (p := ⟨g10, k * 2, none⟩) HTL.out
                      rw [HT0.out] at c0
                      have c1 := hR.cell (p := ⟨g10, k * 2 + 1, none⟩) HTL.out
                      rw [HT1.out] at c1
                      go_simp
                      exact hK _ _ ⟨_, rfl, trivial, hR, rfl⟩
                    refine Ord.each_cons (fun D xs w2 hD hC hP hR hA K hK => ?_) ?_
                    · -- 16
                      have q11 := Ord.ahead_get _ hA 11 (by decide)
                      simp only [CkB3] at q11
                      have q15 := Ord.ahead_get _ hA 15 (by decide)
                      simp only [CkB3] at q15
                      have q10 := Ord.ahead_get _ hA 10 (by decide)
                      simp only [CkB3] at q10
                      simp only [q11, q15, q10] at hK
                      clear hA
                      go_simp
                      refine (refSame_any (Pg.openN b) (Pg.openN (NB k)) _ _ (Pg.openL b) (Pg.openL (NB k)) w2 (HPB.out.below hR) (HTB.out.below hR)).mono ?_
                      rintro e w' ⟨rfl, hb⟩
                      rw [HX2.out]
                      exact hK _ _ ⟨_, rfl, trivial, hR.trans (hb.mono hR.size), rfl⟩
                    refine Ord.each_cons (fun D xs w2 hD hC hP hR hA K hK => ?_) ?_
                    · -- 17
                      have q16 := Ord.ahead_get _ hA 16 (by decide)
                      simp only [CkB3] at q16
                      have q10 := Ord.ahead_get _ hA 10 (by decide)
                      simp only [CkB3] at q10
                      simp only [q16, q10] at hK
                      clear hA
                      go_simp
                      exact hK _ _ ⟨_, rfl, trivial, hR, rfl⟩
                    refine Ord.each_cons (fun D xs w2 hD hC hP hR hA K hK => ?_) ?_
                    · -- 18
                      have q10 := Ord.ahead_get _ hA 10 (by decide)
                      simp only [CkB3] at q10
                      have q17 := Ord.ahead_get _ hA 17 (by decide)
                      simp only [CkB3] at q17
                      have q2 := Ord.ahead_get _ hA 2 (by decide)
                      simp only [CkB3] at q2
                      simp only [q10, q17, q2] at hK
                      clear hA
                      go_simp
                      exact hK _ _ ⟨_, rfl, trivial, hR, rfl⟩
                    refine Ord.each_cons (fun D xs w2 hD hC hP hR hA K hK => ?_) ?_
                    · -- 19
                      have q18 := Ord.ahead_get _ hA 18 (by decide)
                      simp only [CkB3] at q18
                      have q2 := Ord.ahead_get _ hA 2 (by decide)
                      simp only [CkB3] at q2
                      simp only [q18, q2] at hK
                      clear hA
                      go_simp
                      exact hK _ _ ⟨_, rfl, trivial, hR, rfl⟩
                    refine Ord.each_cons (fun D xs w2 hD hC hP hR hA K hK => ?_) ?_
                    · -- 20
                      have q19 := Ord.ahead_get _ hA 19 (by decide)
                      simp only [CkB3] at q19
                      simp only [q19] at hK
                      clear hA
                      have c0 := hR.cell (p := ⟨X, 0, none⟩) HXL.out
                      rw [HXP0.out] at c0
                      have c1 := hR.cell (p := ⟨X, 1, none⟩) HXL.out
                      rw [HXP1.out] at c1
                      go_simp
                      exact hK _ _ ⟨_, rfl, trivial, hR, rfl⟩
                    refine Ord.each_cons (fun D xs w2 hD hC hP hR hA K hK => ?_) ?_
                    · -- 21
                      have q19 := Ord.ahead_get _ hA 19 (by decide)
                      simp only [CkB3] at q19
                      simp only [q19] at hK
                      clear hA
                      go_simp
                      exact hK _ _ ⟨_, rfl, trivial, hR, rfl⟩
                    refine Ord.each_cons (fun D xs w2 hD hC hP hR hA K hK => ?_) ?_
                    · -- 22
                      have q19 := Ord.ahead_get _ hA 19 (by decide)
                      simp only [CkB3] at q19
                      simp only [q19] at hK
                      clear hA
                      go_simp
                      exact hK _ _ ⟨_, rfl, trivial, hR, rfl⟩
                    refine Ord.each_cons (fun D xs w2 hD hC hP hR hA K hK => ?_) ?_
                    · -- 23
                      have q20 := Ord.ahead_get _ hA 20 (by decide)
                      simp only [CkB3] at q20
                      have q21 := Ord.ahead_get _ hA 21 (by decide)
                      simp only [CkB3] at q21
                      have q22 := Ord.ahead_get _ hA 22 (by decide)
                      simp only [CkB3] at q22
                      have q19 := Ord.ahead_get _ hA 19 (by decide)
                      simp only [CkB3] at q19
                      simp only [q20, q21, q22, q19] at hK
                      clear hA
                      go_simp
                      refine (mixed_any (Pg.openN b) _ (Pg.openL b) k _ _ l w2 (HPB.out.below hR) H500.out (HLI.out.below (HB6.out.trans (hR.mono HB6.out.size))) HKC2.out HMX.out).mono ?_
                      rintro e w' ⟨rfl, hb⟩
                      exact hK _ _ ⟨_, rfl, trivial, hR.trans (hb.mono hR.size), rfl⟩
                    refine Ord.each_cons (fun D xs w2 hD hC hP hR hA K hK => ?_) ?_
                    · -- 24
                      have q23 := Ord.ahead_get _ hA 23 (by decide)
                      simp only [CkB3] at q23
                      have q19 := Ord.ahead_get _ hA 19 (by decide)
                      simp only [CkB3] at q19
                      simp only [q23, q19] at hK
                      clear hA
                      go_simp
                      exact hK _ _ ⟨_, rfl, trivial, hR, rfl⟩
                    refine Ord.each_cons (fun D xs w2 hD hC hP hR hA K hK => ?_) ?_
                    · -- 25
                      have q19 := Ord.ahead_get _ hA 19 (by decide)
                      simp only [CkB3] at q19
                      have q24 := Ord.ahead_get _ hA 24 (by decide)
                      simp only [CkB3] at q24
                      have q2 := Ord.ahead_get _ hA 2 (by decide)
                      simp only [CkB3] at q2
                      simp only [q19, q24, q2] at hK
                      clear hA
                      go_simp
                      exact hK _ _ ⟨_, rfl, trivial, hR, rfl⟩
                    refine Ord.each_cons (fun D xs w2 hD hC hP hR hA K hK => ?_) ?_
                    · -- 26
                      have q2 := Ord.ahead_get _ hA 2 (by decide)
                      simp only [CkB3] at q2
                      have q25 := Ord.ahead_get _ hA 25 (by decide)
                      simp only [CkB3] at q25
                      simp only [q2, q25] at hK
                      clear hA
                      go_simp
                      exact hK _ _ ⟨_, rfl, trivial, hR, rfl⟩
                    exact Ord.each_nil
                  case hendt1m3 =>
                    intro D7 xs7 w7 hR7 hF7
                    have e7 := (hF7 26 (by decide)).2
                    simp only [CkB3] at e7
                    rw [e7]
                    have HB7 : Hid (Below wc.heap.size wc w7) := HC6.out.trans (hR7.mono HC6.out.size)
                    clear e7 hF7
                    generalize xs7 0 = y0 at *
                    generalize xs7 1 = y1 at *
                    generalize xs7 2 = y2 at *
                    generalize xs7 3 = y3 at *
                    generalize xs7 4 = y4 at *
                    generalize xs7 5 = y5 at *
                    generalize xs7 6 = y6 at *
                    generalize xs7 7 = y7 at *
                    generalize xs7 8 = y8 at *
                    generalize xs7 9 = y9 at *
                    generalize xs7 10 = y10 at *
                    generalize xs7 11 = y11 at *
                    generalize xs7 12 = y12 at *
                    generalize xs7 13 = y13 at *
                    generalize xs7 14 = y14 at *
                    generalize xs7 15 = y15 at *
                    generalize xs7 16 = y16 at *
                    generalize xs7 17 = y17 at *
                    generalize xs7 18 = y18 at *
                    generalize xs7 19 = y19 at *
                    generalize xs7 20 = y20 at *
                    generalize xs7 21 = y21 at *
                    generalize xs7 22 = y22 at *
                    generalize xs7 23 = y23 at *
                    generalize xs7 24 = y24 at *
                    generalize xs7 25 = y25 at *
                    clear hR7
                    go_wp2_with fail
                    go_roundw
                    case rel => exact ⟨k + 1, by omega, by go_num, HB7.out⟩
                    case measure => simp [intOf]; omega
        · obtain rfl : k = 8 := by omega
          go_wp2_with fail
          refine (known_any HA.out.plain _).mono ?_
          rintro e w9 ⟨rfl, hb9⟩
          have HB9 := Lib.hid (HBC.out.trans ((HBL.out.trans (hb9.mono HBL.out.size)).mono HBC.out.size))
          clear hb9
          go_wp2_with fail
          go_ret
          exact ⟨rfl, HB9.out⟩
    clear hKK
    obtain ⟨K, d, LB, NB, S, P9, P10, r9, r10, hk1, hk2, rfl, hD, hoff, hR⟩ := hrel
    have HDD := Lib.hid hD
    have HOF := Lib.hid hoff
    have HR := Lib.hid hR
    clear hD hoff hR
    by_cases hl1 : K < l.length
    · by_cases hl2 : K < 40
      · have hi1 : (K : Int) < (l.length : Int) := by omega
        have hi2 : (K : Int) < 40 := by omega
        have hi0 : (0 : Int) ≤ (K : Int) := by omega
        obtain ⟨b', off, rfl, hput⟩ := HF.out (by omega)
        have hx := hput K hl1
        have HBW : Hid (b' < w.heap.size) := block_lt_of_cell hx.c0
        have hx1 := hx.below HR.out.bel HBW.out
        generalize hxx : l.getD K default = x at hx1
        have HXX := Lib.hid hxx
        have HX := Lib.hid hx1
        have hcell := hx1.c0
        obtain ⟨m, hm⟩ : ∃ m, (x.n % 8).toNat = m := ⟨_, rfl⟩
        have hs1 := slot_eq x.n
        rw [hm] at hs1
        have hs2 : m < 8 := by omega
        have hs3 : IntKind.i64.wrap (m : Int) = m := i64_small (by omega)
        have HSL2 : Hid (m = Pg.slot (l.getD K default)) := by show _ = _; rw [hxx]; exact hm.symm
        have hk63 := IntWalk.i64_in ((K : Int) + 1) (by omega)
        have hk64 := u64_small (q := (K : Int) + 1) (by omega) (by omega)
        have HKC : Hid ((K : Int) + 1 = ((K + 1 : Nat) : Int)) := by show _ = _; omega
        have HM8 := Lib.hid hs2
        have HL2 := Lib.hid hl2
        clear hput hx hxx hx1 hm hs2
        go_wp2_with fail
        refine (body_any ((K : Int) + 1) _).mono ?_
        rintro e w5 ⟨g5, rfl, -, hO5, hb5⟩
        have HO5 := Lib.hid hO5
        have HB5 := Lib.hid hb5
        clear hO5 hb5 hcell hs1 hs3 hk63 hk64
        obtain ⟨w6, hw6⟩ : ∃ w6, w6 = w5.alloc (.cells #[.int .u64 ((K : Int) + 1), .slice (some ⟨g5, 0, none⟩) 500 500] 25) := ⟨_, rfl⟩
        have hb6 : Below w5.heap.size w5 w6 := by rw [hw6]; exact (Below.refl _ _).alloc (Nat.le_refl _) _
        have hx6 : w6.heap[w5.heap.size]? = some (.cells #[.int .u64 ((K : Int) + 1), .slice (some ⟨g5, 0, none⟩) 500 500] 25 (0, 0)) := by rw [hw6]; exact heap_alloc_last _ _
        have HB6 : Hid (Below wr.heap.size wr w6) := HB5.out.trans (hb6.mono HB5.out.size)
        have HO6 := Lib.hid (HO5.out.below hb6)
        have HX6 := Lib.hid hx6
        clear hb6 hx6
        go_upto_region 10 with (fail)
        rw [← hw6]
        have HXS : Hid (wr.heap.size ≤ w5.heap.size) := HB5.out.size
        obtain ⟨X, hX⟩ : ∃ X, X = w5.heap.size := ⟨_, rfl⟩
        rw [← hX] at HX6 HXS ⊢
        clear hw6 hX
        have q0 := cell2_0 HX6.out
        have q1 := cell2_1 HX6.out
        go_wp2_with fail
        have hwr := HA.out.write 0 (m : Int) (K + 1) _ (Pg.bodyL ((K : Int) + 1)) (HA.out.below HDD.out HB6.out) (by unfold I64; omega) (by unfold I64; have := HM8.out; omega) (by have := HL2.out; omega) HO6.out.bts (fun _ g' hg' hs' => by
          have h1 := (HO6.out.own.lt g' hg').1
          have h2 := HA.out.lt HDD.out g' hs'
          omega)
        unfold PgV at hwr
        rw [← HKC.out] at hwr
        refine hwr.mono ?_
        clear hwr q0 q1
        rintro e w7 ⟨rfl, S7, hD7, hT7, hS7⟩
        have hput := HR.out.inv.put HL2.out HOF.out HSL2.out
        rw [← HKC.out] at hput
        obtain ⟨he7, hinv7⟩ := hput
        generalize Pg.write d 0 (m : Int) (K + 1) (Pg.bodyL ((K : Int) + 1)) = pw at *
        obtain ⟨d7, e7⟩ := pw
        dsimp only at he7 hinv7 hD7 ⊢
        have HINV := Lib.hid hinv7
        have HD7 := Lib.hid hD7
        have HT7 : Hid (Touch S wr w7) := (Touch.of_new HB6.out).trans hT7
        have HT67 : Hid (Touch S w6 w7) := hT7
        have HS7 : Hid (∀ i, S7 i → S i ∨ w6.heap.size ≤ i) := hS7
        have HZ6 : Hid (wr.heap.size ≤ w6.heap.size) := HB6.out.size
        have HZ7 : Hid (w6.heap.size ≤ w7.heap.size) := hT7.size
        have HSW : Hid (∀ i, S i → i < wr.heap.size) := HA.out.lt HDD.out
        have h9 := HR.out.row9.touch HT7.out (fun g hp hs' => HR.out.apart9 g hs' hp)
        have h10 := HR.out.row10.touch HT7.out (fun g hp hs' => HR.out.apart10 g hs' hp)
        have hx7 := HT67.out.row HX6.out (fun hs' => by have := HSW.out X hs'; have := HXS.out; omega)
        have hbody : Own w.heap.size w7 (.slice (some ⟨g5, 0, none⟩) 500 500) (Pg.bodyL ((K : Int) + 1)) := (HO6.out.touch HT67.out (fun g' hg' hs' => by
          have h1 := (HO6.out.own.lt g' hg').1
          have h2 := HSW.out g' hs'
          omega)).from HR.out.bel.size
        have hlr : r10.length = 8 := by rw [h10.len, pgL_length]
        have hown := h10.own
        rw [← hlr] at hown
        obtain ⟨c0, c1⟩ := hown.at m (by rw [hlr]; exact HM8.out)
        have f0 := hown.free (m * 2)
        obtain ⟨m0, m1⟩ := hown.mid m (by rw [hlr]; exact HM8.out) (.int .u64 ((K : Int) + 1))
        have h10' : PRow w.heap.size P10 w7 (.slice (some ⟨g10, 0, none⟩) (pgL NB).length c10) r10 (pgL NB) := by rw [pgL_length]; exact h10
        obtain ⟨Q, hq1, hq2, hq3⟩ := h10'.stored (i := m) (k := K + 1) (by rw [pgL_length]; exact HM8.out) hbody
        rw [pgL_length, ← HKC.out, ← pgL_set NB HM8.out (b := Pg.cf K) (Pg.cf_open HL2.out).2.1 (by rw [HKC.out]; exact (Pg.cf_open HL2.out).2.2)] at hq1
        rw [← HKC.out] at hq3
        have q0 := cell2_0 hx7
        have q1 := cell2_1 hx7
        have d3 := HT7.out.cell HX.out.c3 (fun hs' => by have h1 : w.heap.size ≤ b' := HR.out.low b' hs'; have := HBW.out; omega)
        have hm0 : (0 : Int) ≤ (m : Int) := by omega
        have hm8 : (m : Int) < 8 := by have := HM8.out; omega
        have HQ1 := Lib.hid hq1
        have HQ2' := Lib.hid hq2
        have HQ3 := Lib.hid hq3
        have H9 := Lib.hid h9
        clear h9 h10 h10' hx7 hbody hlr hown hq1 hq2 hq3 hT7 hS7 hD7 hinv7
        obtain ⟨w8, hw8⟩ : ∃ w8, w8 = (w7.setCell ⟨g10, m * 2, none⟩ (.int .u64 ((K : Int) + 1))).setCell ⟨g10, m * 2 + 1, none⟩ (.slice (some ⟨g5, 0, none⟩) 500 500) := ⟨_, rfl⟩
        rw [← hw8] at HQ1 HQ3
        have HG10P : Hid (P10 g10) := HR.out.row10.row g10 rfl
        have hg5 := HO6.out.own.lt g5 rfl
        have hsz8 := HQ3.out.size
        have HS7G : Hid (¬ S7 g10) := fun hs' => by
          rcases HS7.out g10 hs' with h | h
          · exact HR.out.apart10 g10 h HG10P.out
          · have := HR.out.p10 g10 HG10P.out; have := HZ6.out; omega
        have HT8 : Hid (Touch (fun i => i = g10) w7 w8) := Touch.of_grown HQ3.out rfl
        have HD8 := Lib.hid (HA.out.keep HD7.out HT8.out (fun i hi e => HS7G.out (by rw [← e]; exact hi)))
        have HB7 : Hid (Below w.heap.size w w7) := HR.out.bel.trans (HT7.out.below HR.out.low HR.out.bel.size)
        have HC8 : Hid (CrR w B g10 c10 l (K + 1) u9 d7 LB (fun n => if n = m then Pg.cf K else NB n) S7 P9 Q r9 (r10.set m (K + 1, .slice (some ⟨g5, 0, none⟩) 500 500)) w8) := by
          have hz6 := HZ6.out
          have hz7 := HZ7.out
          refine ⟨HINV.out, H9.out.touch HT8.out (fun g hg e => HR.out.not10 (by rw [← e]; exact hg)), HQ1.out, ?_, ?_, HR.out.not10, ?_, ?_, ?_, below_grown HB7.out HQ3.out HB7.out.size ?_⟩
          · intro i hi hp
            rcases HS7.out i hi with h | h
            · exact HR.out.apart9 i h hp
            · have := HR.out.p9 i hp; omega
          · intro i hi hq
            rcases HQ2'.out i hq with h | h
            · rcases HS7.out i hi with h2 | h2
              · exact HR.out.apart10 i h2 h
              · have := HR.out.p10 i h; omega
            · simp only [Value.ownBlock, Option.some.injEq] at h
              subst h
              rcases HS7.out g5 hi with h2 | h2
              · have := HSW.out g5 h2; omega
              · omega
          · intro i hi
            rcases HS7.out i hi with h | h
            · exact HR.out.low i h
            · have := HR.out.bel.size; omega
          · intro i hp
            have := HR.out.p9 i hp; omega
          · intro i hq
            rcases HQ2'.out i hq with h | h
            · have := HR.out.p10 i h; omega
            · simp only [Value.ownBlock, Option.some.injEq] at h
              subst h; omega
          · have h1 := HG10.out.1
            have h2 := HB2.out.size
            have h3 := HB3.out.size
            omega
        clear hg5 hsz8
        cases ho7 : d7.off with
        | true =>
          rw [ho7] at he7
          have he : (e7 : Int) = 6 := by rw [he7]; rfl
          rw [he]
          clear he7 he
          go_upto_region 14 with (fail)
          rw [← hw8]
          clear d3 c0 c1 f0 m0 m1 q0 q1 hw8
          go_wp2_with fail
          exact TAIL (K + 1) _ _ _ _ _ _ _ _ _ (by omega) (by omega) HD8.out HC8.out
        | false =>
          rw [ho7] at he7
          have he : (e7 : Int) = 0 := by rw [he7]; rfl
          rw [he]
          clear he7 he
          go_upto_region 14 with (fail)
          rw [← hw8]
          have d8 := HT8.out.cell d3 (fun e => by
            have h1 : b' = g10 := e
            have h2 := HG10.out.1
            have h3 := HB2.out.size
            have h4 := HB3.out.size
            have := HBW.out
            omega)
          clear d3 c0 c1 f0 m0 m1 q0 q1 hw8
          cases hsy : x.sync with
          | false =>
            rw [hsy] at d8
            go_wp2_with fail
            go_roundw
            case rel => exact ⟨K + 1, d7, LB, _, S7, P9, Q, r9, _, by omega, by omega, by go_num, HD8.out, ho7, HC8.out⟩
            case measure => simp [intOf]; omega
          | true =>
            rw [hsy] at d8
            go_wp2_with fail
            refine (HA.out.sync HD8.out).mono ?_
            rintro e w9 ⟨rfl, S9, hD9, hT9, hS9⟩
            have hsync := HC8.out.inv.sync ho7
            generalize Dk.sync d7 = sw at *
            obtain ⟨d9, e9⟩ := sw
            dsimp only at hsync hD9 ⊢
            have HD9 := Lib.hid hD9
            have HT9 : Hid (Touch S7 w8 w9) := hT9
            have HS9 : Hid (∀ i, S9 i → S7 i ∨ w8.heap.size ≤ i) := hS9
            have h9 := HC8.out.row9.touch hT9 (fun g hp hs' => HC8.out.apart9 g hs' hp)
            have h10 := HC8.out.row10.touch hT9 (fun g hp hs' => HC8.out.apart10 g hs' hp)
            have H10 := Lib.hid h10
            have HB9 : Hid (Below w.heap.size w w9) := HC8.out.bel.trans (hT9.below HC8.out.low HC8.out.bel.size)
            have HZ9 : Hid (w8.heap.size ≤ w9.heap.size) := hT9.size
            clear hD9 hT9 hS9 d8
            rcases hsync with ⟨he, hinv⟩ | ⟨he, hof9, hinv⟩
            · have he' : (e9 : Int) = 6 := by rw [he]; rfl
              rw [he']
              have HINV9 := Lib.hid hinv
              clear he he' hinv
              have HSW9 : Hid (∀ i, S9 i → i < w9.heap.size) := HA.out.lt HD9.out
              have HCF := Lib.hid (show CrR w B g10 c10 l (K + 1) u9 d9 LB (fun n => if n = m then Pg.cf K else NB n) S9 P9 Q r9 _ w9 from
                ⟨HINV9.out, h9, h10, fun i hi hp => by
                  rcases HS9.out i hi with h | h
                  · exact HC8.out.apart9 i h hp
                  · have := HC8.out.p9 i hp; omega, fun i hi hq => by
                  rcases HS9.out i hi with h | h
                  · exact HC8.out.apart10 i h hq
                  · have := HC8.out.p10 i hq; omega, HC8.out.not10, fun i hi => by
                  rcases HS9.out i hi with h | h
                  · exact HC8.out.low i h
                  · have := HC8.out.bel.size; omega, fun i hp => by
                  have := HC8.out.p9 i hp; have := HZ9.out; omega, fun i hq => by
                  have := HC8.out.p10 i hq; have := HZ9.out; omega, HB9.out⟩)
              clear h9 h10
              go_wp2_with fail
              exact TAIL (K + 1) _ _ _ _ _ _ _ _ _ (by omega) (by omega) HD9.out HCF.out
            · have he' : (e9 : Int) = 0 := by rw [he]; rfl
              rw [he']
              have HINV9 := Lib.hid hinv
              have HOF9 := Lib.hid hof9
              clear he he' hinv hof9
              obtain ⟨wE, hwE⟩ : ∃ wE, wE = w9.alloc (.cells #[] 25) := ⟨_, rfl⟩
              have hbE : Below w9.heap.size w9 wE := by rw [hwE]; exact (Below.refl _ _).alloc (Nat.le_refl _) _
              have hoE : POwn w9.heap.size wE (.slice (some ⟨w9.heap.size, 0, none⟩) 0 0) [] := by rw [hwE]; exact pown_empty w9 w9.heap.size (Nat.le_refl _)
              have h10E := H10.out.below hbE
              have hlenE := h10E.len
              rw [pgL_length] at hlenE
              have honeE := h10E.one
              go_upto_region 17 with (fail)
              iterate 7 go_step
              rw [← hwE]
              refine wpList_append_POwn rfl (.tmp 84) (.tmp 85) rfl w9.heap.size _ [] rfl hoE _ _ rfl h10E.own.bts honeE (by rw [hlenE]; decide) hbE.size ?_
              intro v9' wF hoF hbF hgF
              rw [List.nil_append] at hoF
              have HF10 := h10E.copied hoF hgF hoE hbE.size (hb2 := HB9.out.size)
              have hbw : Below w9.heap.size w9 wF := hbE.trans hbF
              have HD10 := Lib.hid (HA.out.below HD9.out hbw)
              have HSW9 : Hid (∀ i, S9 i → i < w9.heap.size) := HA.out.lt HD9.out
              have HQS9 : Hid (∀ i, S9 i → ¬ Q i) := fun i hi hq => by
                rcases HS9.out i hi with h | h
                · exact HC8.out.apart10 i h hq
                · have := HC8.out.p10 i hq; omega
              have HG9L : Hid (g10 < w9.heap.size) := (World.ownsRow.lt H10.out.own g10 rfl).2
              have HCF := Lib.hid (show CrR w B g10 c10 l (K + 1) v9' d9 (fun n => if n = m then Pg.cf K else NB n) (fun n => if n = m then Pg.cf K else NB n) S9 _ Q _ _ wF from
                ⟨HINV9.out, HF10, H10.out.below hbw, fun i hi hp => by
                  rcases hp with ⟨h, -⟩ | ⟨j, hj, h⟩
                  · have := HSW9.out i hi; omega
                  · exact HQS9.out i hi (H10.out.blk j hj i h), HQS9.out, fun hp => by
                  rcases hp with ⟨h, -⟩ | ⟨j, hj, h⟩
                  · have := HG9L.out; omega
                  · rcases apart_rows (H10.out.body j hj).own H10.out.own (by decide) with e | e
                    · rw [e] at h; cases h
                    · exact e (by rw [h]; rfl), fun i hi => by
                  rcases HS9.out i hi with h | h
                  · exact HC8.out.low i h
                  · have := HC8.out.bel.size; omega, fun i hp => by
                  rcases hp with ⟨-, h⟩ | ⟨j, hj, h⟩
                  · exact h
                  · have := HC8.out.p10 i (H10.out.blk j hj i h); have := HZ9.out; have := hbw.size; omega, fun i hq => by
                  have := HC8.out.p10 i hq; have := HZ9.out; have := hbw.size; omega, HB9.out.trans (hbw.mono HB9.out.size)⟩)
              clear hwE hbE hoE h10E hlenE honeE hoF hbF hgF HF10 hbw
              go_wp2_with fail
              go_roundw
              case rel => exact ⟨K + 1, d9, _, _, S9, _, Q, _, _, by omega, by omega, by go_num, HD10.out, HOF9.out, HCF.out⟩
              case measure => simp [intOf]; omega
      · have hi1 : (K : Int) < (l.length : Int) := by omega
        have hi2 : ¬ (K : Int) < 40 := by omega
        go_wp2_with fail
        exact TAIL K _ _ _ _ _ _ _ _ _ hk1 hk2 HDD.out HR.out
    · have hi1 : ¬ (K : Int) < (l.length : Int) := by omega
      go_wp2_with fail
      exact TAIL K _ _ _ _ _ _ _ _ _ hk1 hk2 HDD.out HR.out
end
end Go.Proofs.Ytkmkbjjpbodbfaa
