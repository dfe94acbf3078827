/- Parts of a proof. Conditions: as each row says. -/
import Derived.Test.YtbpodmallknhfaaGreatBk03
import Derived.Test.YtbpodmallknhfaaGreatBk14
import Derived.Test.YtbpodmallknhfaaGreatBk08
namespace Go.Proofs.YtbpodmallknhfaaGreat
open Go.RowKit
section
variable {PD : (Nat → Prop) → World → Nat → Dk.Dev → Prop} {PL : (Nat → Prop) → (Nat → Prop) → World → Nat → Nat → Dk.Dev → Wl.S → Prop} {PO : (Nat → Prop) → World → Nat → Nat → Nat → Po.S → Prop} {Hd : Dk.Dev → Wl.S → Prop} {Hw : Dk.Dev → Po.Ar → (Nat → Po.Pg) → Prop} {Hp : Dk.Dev → Po.Ar → (Nat → Po.Pg → Prop) → Prop}
variable {U V X Y : Nat → Prop} {w w' : World} {B L P Q base g F : Nat} {d : Dk.Dev} {lg : Wl.S} {s t : Po.S} {LL : List (Nat × List Nat)}
def Po.Clean (s : Po.S) (f : Nat → Po.Pg) : Prop := s.now = f ∧ ∀ k, s.first k = none
theorem Po.Clean.disk {f : Nat → Po.Pg} (h : Po.Clean s f) (g : Po.Good s) : s.disk = f := by
  funext k
  rw [g.clean k (h.2 k), h.1]
theorem Po.Clean.moved {f : Nat → Po.Pg} (h : Po.Clean s f) (m : Po.Moved s t) (g : Po.Good t) : Po.Clean t f := by
  refine ⟨m.now.trans h.1, fun k => ?_⟩
  by_cases hk : k ∈ t.held
  · rw [m.first k hk]; exact h.2 k
  · exact g.first_of hk
theorem Po.Clean.dirts {f : Nat → Po.Pg} (h : Po.Clean s f) : Po.dirts s = [] := by
  unfold Po.dirts
  rw [List.filterMap_eq_nil_iff]
  intro k _
  rw [h.2 k]; rfl
def Four (U V X Y : Nat → Prop) (i : Nat) : Prop := Three U V X i ∨ Y i
structure Two (PL : (Nat → Prop) → (Nat → Prop) → World → Nat → Nat → Dk.Dev → Wl.S → Prop) (PO : (Nat → Prop) → World → Nat → Nat → Nat → Po.S → Prop) (Hw : Dk.Dev → Po.Ar → (Nat → Po.Pg) → Prop) (base : Nat) (U V X Y : Nat → Prop) (w : World) (B L P Q : Nat) (d : Dk.Dev) (lg : Wl.S) (s t : Po.S) (f : Nat → Po.Pg) : Prop where
  a : PoAt PL PO Hw base U V X w B L P d lg s
  b : PoAt PL PO Hw base U V Y w B L Q d lg t
  ap : ∀ i, X i → ¬ Y i
  ca : Po.Clean s f
  cb : Po.Clean t f
theorem Two.swap {f : Nat → Po.Pg} (h : Two PL PO Hw base U V X Y w B L P Q d lg s t f) : Two PL PO Hw base U V Y X w B L Q P d lg t s f := ⟨h.b, h.a, fun i hy hx => h.ap i hx hy, h.cb, h.ca⟩
theorem Two.below (A : PoApi PD PL PO Hd Hw Hp) {f : Nat → Po.Pg} (h : Two PL PO Hw base U V X Y w B L P Q d lg s t f) (hb : Below w.heap.size w w') : Two PL PO Hw base U V X Y w' B L P Q d lg s t f :=
  ⟨h.a.below A hb, h.b.below A hb, h.ap, h.ca, h.cb⟩
theorem Two.lt (A : PoApi PD PL PO Hd Hw Hp) {f : Nat → Po.Pg} (h : Two PL PO Hw base U V X Y w B L P Q d lg s t f) : ∀ i, Four U V X Y i → i < w.heap.size := fun i hi =>
  hi.elim (A.lt h.a.at_ i) (A.olt h.b.at_.own i)
theorem Two.gave (A : PoApi PD PL PO Hd Hw Hp) {f : Nat → Po.Pg} {t' : Po.S} {u : Value} {ul : List Nat} (h : Two PL PO Hw base U V X Y w B L P Q d lg s t f) (hg : PoGave PL PO Hw U V Y w B L Q w' d lg t' u) (hO : Own w.heap.size w' u ul) (hm : Po.Moved t t') (hb : base ≤ w.heap.size) :
    ∃ U' V' Y', Two PL PO Hw base U' V' X Y' w' B L P Q d lg s t' f ∧ Below base w w' ∧ Touch (Three U V Y) w w' ∧ (∀ i, Four U' V' X Y' i → Four U V X Y i ∨ w.heap.size ≤ i) ∧ ∀ b, u.ownBlock = some b → ¬ Four U' V' X Y' b := by
  obtain ⟨U', V', Y', hB, hbl, hT, g1, g2, g3, g4⟩ := h.b.gave hg hb
  have hlt : ∀ i, X i → i < w.heap.size := A.olt h.a.at_.own
  have hdx : ∀ i, X i → ¬ Three U V Y i := fun i hx hi => by
    rcases hi with hi | hi | hi
    · exact h.a.at_.off i (Or.inl hi) hx
    · exact h.a.at_.off i (Or.inr hi) hx
    · exact h.ap i hx hi
  refine ⟨U', V', Y', ⟨⟨⟨hB.at_.log, A.okeep h.a.at_.own hT hdx, h.a.at_.area, fun i hi hx => ?_, h.a.at_.rule, h.a.at_.away⟩, hB.fu, hB.fv, h.a.fx⟩, hB, fun i hx hy => ?_, h.ca, h.cb.moved hm (A.ogood hB.at_.own)⟩, hbl, hT, fun i hi => ?_, fun b hu hi => ?_⟩
  · have := hlt i hx
    rcases hi with hi | hi
    · rcases g1 i hi with h1 | h1
      · exact h.a.at_.off i (Or.inl h1) hx
      · omega
    · rcases g2 i hi with h1 | h1
      · exact h.a.at_.off i (Or.inr h1) hx
      · omega
  · have := hlt i hx
    rcases g3 i hy with h1 | h1
    · exact h.ap i hx h1
    · omega
  · rcases hi with (hi | hi | hi) | hi
    · exact (g1 i hi).imp (fun h => Or.inl (Or.inl h)) id
    · exact (g2 i hi).imp (fun h => Or.inl (Or.inr (Or.inl h))) id
    · exact Or.inl (Or.inl (Or.inr (Or.inr hi)))
    · exact (g3 i hi).imp (fun h => Or.inr h) id
  · rcases hi with (hi | hi | hi) | hi
    · exact g4 b hu (Or.inl hi)
    · exact g4 b hu (Or.inr (Or.inl hi))
    · have := hlt b hi
      have := (World.ownsRow.lt hO.own b hu).1
      omega
    · exact g4 b hu (Or.inr (Or.inr hi))
theorem PArr.rebase (h : PArr g g w LL) (hb : base ≤ g) : PArr base g w LL := by
  obtain ⟨l, h1, h2, h3⟩ := h.row
  exact ⟨h.len, hb, l, h1, h2, fun i hi => ⟨(h3 i hi).1, (h3 i hi).2.from hb⟩⟩
structure BkI (PL : (Nat → Prop) → (Nat → Prop) → World → Nat → Nat → Dk.Dev → Wl.S → Prop) (PO : (Nat → Prop) → World → Nat → Nat → Nat → Po.S → Prop) (Hw : Dk.Dev → Po.Ar → (Nat → Po.Pg) → Prop) (base g F : Nat) (U V X : Nat → Prop) (w0 w : World) (B L P : Nat) (d : Dk.Dev) (lg : Wl.S) (s : Po.S) (LL : List (Nat × List Nat)) : Prop where
  arr : PArr base g w LL
  ap : ∀ i, Three U V X i → ¬ PArr.Blk w g i
  at_ : PoAt PL PO Hw base U V X w B L P d lg s
  calm : Wl.Calm 120 d
  stop : lg.stop = 52
  ar : s.ar = Po.area
  fr : s.frames = F
  pins : ∀ k, s.pins k = 0
  now : ∀ j, j < 16 → LL.getD j (0, []) = s.now j ∧ (s.now j).1 = 0
  bel : Below base w0 w
section
variable {w0 w1 : World} {x : List Nat} {q : Nat} {u : Value}
theorem BkI.below (A : PoApi PD PL PO Hd Hw Hp) (h : BkI PL PO Hw base g F U V X w0 w B L P d lg s LL) (hb : Below w.heap.size w w') (hz : base ≤ w.heap.size) : BkI PL PO Hw base g F U V X w0 w' B L P d lg s LL :=
  ⟨h.arr.below hb, fun i hi hk => h.ap i hi (PArr.blk_same (hb.block g h.arr.lt) i hk), h.at_.below A hb, h.calm, h.stop, h.ar, h.fr, h.pins, h.now, h.bel.trans (hb.mono hz)⟩
structure BkJ (PL : (Nat → Prop) → (Nat → Prop) → World → Nat → Nat → Dk.Dev → Wl.S → Prop) (PO : (Nat → Prop) → World → Nat → Nat → Nat → Po.S → Prop) (Hw : Dk.Dev → Po.Ar → (Nat → Po.Pg) → Prop) (base g F : Nat) (U V X : Nat → Prop) (w0 w : World) (B L P : Nat) (d : Dk.Dev) (lg : Wl.S) (s : Po.S) (LL : List (Nat × List Nat)) (q : Nat) (x : List Nat) : Prop where
  arr : PArr base g w (LL.set q (0, x))
  ap : ∀ i, Three U V X i → ¬ PArr.Blk w g i
  at_ : PoAt PL PO Hw base U V X w B L P d lg s
  calm : Wl.Calm 120 d
  stop : lg.stop = 52
  ar : s.ar = Po.area
  fr : s.frames = F
  pins : ∀ k, s.pins k = 0
  now : ∀ j, j < 16 → LL.getD j (0, []) = s.now j ∧ (s.now j).1 = 0
  bel : Below base w0 w
  len : LL.length = 16
theorem BkI.stored (A : PoApi PD PL PO Hd Hw Hp) (h : BkI PL PO Hw base g F U V X w0 w B L P d lg s LL) (hq : q < 16) (hO : Own base w u x) (ha : ∀ i, Three U V X i → u.ownBlock ≠ some i) (hz : base ≤ w.heap.size) :
    BkJ PL PO Hw base g F U V X w0 ((w.setCell ⟨g, q * 2, none⟩ (.int .u64 0)).setCell ⟨g, q * 2 + 1, none⟩ u) B L P d lg s LL q x := by
  obtain ⟨h1, h2⟩ := h.arr.set (k := 0) hq hO
  refine ⟨h1, fun i hi hk => ?_, ⟨A.keep h.at_.at_ h2 fun i hi e => h.ap i hi (Or.inl e), h.at_.fu, h.at_.fv, h.at_.fx⟩, h.calm, h.stop, h.ar, h.fr, h.pins, h.now, h.bel.trans (h2.below (fun i e => by rw [show i = g from e]; exact h.arr.low) hz), h.arr.len⟩
  rcases h.arr.set_blk (k := 0) hq u i hk with hk | hk
  · exact h.ap i hi hk
  · exact ha i hi hk
theorem BkJ.near (A : PoApi PD PL PO Hd Hw Hp) (h : BkJ PL PO Hw base g F U V X w0 w B L P d lg s LL q x) : Wl.Near 120 d := ⟨A.dok (A.dev h.at_.at_.log), h.calm.sz, h.calm.most⟩
theorem BkJ.free (h : BkJ PL PO Hw base g F U V X w0 w B L P d lg s LL q x) (hF : 1 ≤ F) : ¬ Po.Full s := Po.not_full_none h.pins (by rw [h.fr]; exact hF)
theorem BkJ.put (A : PoApi PD PL PO Hd Hw Hp) {e : Ending} {Z : Prop} (h : BkJ PL PO Hw base g F U V X w0 w B L P d lg s LL q x) (hq : q < 16)
    (hp : (∃ d' lg' s', e = .returned (.int .i64 0) ∧ PoWent PL PO Hw U V X w B L P w' d' lg' s' ∧ Wl.Near 120 d' ∧ (Wl.Calm 120 d → Wl.Calm 120 d') ∧ Po.Lf lg lg' ∧ Po.PutTo s q (0, x) s') ∨ (¬ Wl.Calm 120 d ∧ Z)) (hz : base ≤ w.heap.size) :
    ∃ d' lg' s', e = .returned (.int .i64 0) ∧ ∃ U' V' X', BkI PL PO Hw base g F U' V' X' w0 w' B L P d' lg' s' (LL.set q (0, x)) := by
  rcases hp with ⟨d', lg', s', he, hw, -, hC, hl, hs⟩ | ⟨hn, -⟩
  · obtain ⟨U', V', X', hP, hb, hT, g1, g2, g3⟩ := h.at_.went hw hz
    have hblk : w'.heap[g]? = w.heap[g]? := hT.block g h.arr.lt fun hh => h.ap g hh (Or.inl rfl)
    refine ⟨d', lg', s', he, U', V', X', h.arr.touch hT (fun i h1 h2 => h.ap i h2 h1), fun i hi hk => ?_, hP, hC h.calm, hl.stop.trans h.stop, hs.ar.trans h.ar, hs.frames.trans h.fr, fun k => by rw [hs.pins]; exact h.pins k, fun j hj => ?_, h.bel.trans hb⟩
    · have hk9 := PArr.blk_same hblk i hk
      have hl9 := (h.arr.blk_lt i hk9).2
      rcases hi with hi | hi | hi
      · rcases g1 i hi with h1 | h1
        · exact h.ap i (Or.inl h1) hk9
        · omega
      · rcases g2 i hi with h1 | h1
        · exact h.ap i (Or.inr (Or.inl h1)) hk9
        · omega
      · rcases g3 i hi with h1 | h1
        · exact h.ap i (Or.inr (Or.inr h1)) hk9
        · omega
    · rw [hs.now, List.getD_eq_getElem?_getD]
      by_cases e : q = j
      · subst e
        rw [List.getElem?_set_self (by rw [h.len]; exact hj), Po.upd_self]
        exact ⟨rfl, rfl⟩
      · rw [List.getElem?_set_ne e, ← List.getD_eq_getElem?_getD, Po.upd_ne _ _ (Ne.symm e)]
        exact h.now j hj
  · exact absurd h.calm hn
end
theorem four_swap {U V X Y : Nat → Prop} {i : Nat} (h : Four U V X Y i) : Four U V Y X i := by
  rcases h with (h | h | h) | h
  · exact Or.inl (Or.inl h)
  · exact Or.inl (Or.inr (Or.inl h))
  · exact Or.inr h
  · exact Or.inl (Or.inr (Or.inr h))
def BkF (kn g m : Nat) (u1 u2 u3 : Value) (i : Nat) (v : Value) (_ : World) : Prop :=
  match i with
  | 0 => v = .int .i64 0
  | 1 => v = .bool false
  | 2 => v = .bool false
  | 3 => v = .int .i64 0
  | 4 => v = .bool false
  | 5 => v = .bool false
  | 6 => v = .bool false
  | 7 => v = .agg #[.int .u64 (kn : Int), u1]
  | 8 => v = .int .i64 (m : Int)
  | 9 => v = .pointer (some ⟨g, m * 2, none⟩)
  | 10 => v = .agg #[.int .u64 (kn : Int), u3]
  | 11 => v = .bool true
  | 12 => v = .bool false
  | 13 => v = .bool false
  | 14 => v = .bool false
  | 15 => v = .agg #[.int .u64 (kn : Int), u2]
  | 16 => v = .int .i64 (m : Int)
  | 17 => v = .pointer (some ⟨g, m * 2, none⟩)
  | 18 => v = .agg #[.int .u64 (kn : Int), u3]
  | 19 => v = .bool true
  | 20 => v = .bool false
  | 21 => v = .bool false
  | _ => True
theorem BkF_later (kn g m : Nat) (u1 u2 u3 : Value) (i : Nat) (v : Value) (w w' : World) (_ : Below w.heap.size w w') (h : BkF kn g m u1 u2 u3 i v w) : BkF kn g m u1 u2 u3 i v w' := by
  unfold BkF at *
  split at h <;> first | exact h | trivial
set_option maxHeartbeats 6400000 in
set_option maxRecDepth 20000 in
theorem poolBack_any (A : PoApi PD PL PO Hd Hw Hp) (fr ot : Int) (v : Value) (l : List PopV) (w : World) (hB : PopsIn w v l) :
    Calls Tryz.prog 6 #[.int .i64 fr, .int .i64 ot, v] w fun e w' => e = .returned (.bool true) ∧ Below w.heap.size w w' := by
  have HA := Lib.hid A
  obtain ⟨p, cap, rfl, hcap, -, hp⟩ := hB.form
  have HPP := Lib.hid hp
  clear A hB hp
  by_cases h1 : fr < 1
  case pos =>
    go_enter Tryz.func6, Tryz.ntmps6
    go_wp2_with fail
    refine (known_any HA.out _).mono ?_
    rintro e w2 ⟨rfl, hb2⟩
    go_wp2_with fail
    go_ret
    exact ⟨rfl, hb2⟩
  by_cases h2 : 12 < fr
  case pos =>
    go_enter Tryz.func6, Tryz.ntmps6
    go_wp2_with fail
    refine (known_any HA.out _).mono ?_
    rintro e w2 ⟨rfl, hb2⟩
    go_wp2_with fail
    go_ret
    exact ⟨rfl, hb2⟩
  by_cases h3 : ot < 1
  case pos =>
    go_enter Tryz.func6, Tryz.ntmps6
    go_wp2_with fail
    refine (known_any HA.out _).mono ?_
    rintro e w2 ⟨rfl, hb2⟩
    go_wp2_with fail
    go_ret
    exact ⟨rfl, hb2⟩
  by_cases h4 : 12 < ot
  case pos =>
    go_enter Tryz.func6, Tryz.ntmps6
    go_wp2_with fail
    refine (known_any HA.out _).mono ?_
    rintro e w2 ⟨rfl, hb2⟩
    go_wp2_with fail
    go_ret
    exact ⟨rfl, hb2⟩
  by_cases h5 : (60 : Int) < (l.length : Int)
  case pos =>
    go_enter Tryz.func6, Tryz.ntmps6
    go_wp2_with fail
    refine (known_any HA.out _).mono ?_
    rintro e w2 ⟨rfl, hb2⟩
    go_wp2_with fail
    go_ret
    exact ⟨rfl, hb2⟩
  obtain ⟨F, rfl⟩ : ∃ F : Nat, fr = (F : Int) := ⟨fr.toNat, by omega⟩
  obtain ⟨O, rfl⟩ : ∃ O : Nat, ot = (O : Int) := ⟨ot.toNat, by omega⟩
  have HF : Hid (1 ≤ F ∧ F ≤ 12) := Lib.hid (by omega)
  have HOT : Hid (1 ≤ O ∧ O ≤ 12) := Lib.hid (by omega)
  have HLE : Hid (l.length ≤ 60) := Lib.hid (by omega)
  go_enter Tryz.func6, Tryz.ntmps6
  go_wp2_with fail
  refine (begin_any HA.out F HF.out.1 (by have := HF.out; omega) w).mono ?_
  rintro e w1 ⟨B, L, P, U, V, X, d, rfl, hP, hC, hb⟩
  have HP := Lib.hid hP
  have HC := Lib.hid hC
  have HB := Lib.hid hb
  clear hP hC hb h1 h2 h3 h4 h5
  go_upto_region 7 with (fail)
  obtain ⟨W, hW⟩ : ∃ W, W = w1.alloc (.cells arr0 85) := ⟨_, rfl⟩
  have hnew := parr_new (base := w1.heap.size) (w := w1) (Nat.le_refl _)
  unfold arr0 at hW
  have hbW : Below w1.heap.size w1 W := by rw [hW]; exact below_new1 _ _
  rw [show w1.alloc (.cells arr0 85) = W by rw [hW]; rfl] at hnew
  rw [← hW]
  obtain ⟨g, hg⟩ : ∃ g, g = w1.heap.size := ⟨_, rfl⟩
  rw [← hg] at hnew ⊢
  have HG0 := Lib.hid hnew
  have HP1 := Lib.hid (HP.out.below HA.out hbW)
  have HB1 := Lib.hid (HB.out.trans (hbW.mono HB.out.size))
  have HGX : Hid (∀ i, Three U V X i → i < g) := by
    have h := HA.out.lt HP.out.at_
    rw [← hg] at h
    exact h
  have HGL : Hid (w.heap.size ≤ g) := by show _ ≤ _; rw [hg]; exact HB.out.size
  clear hW hnew hbW hg HP HB
  go_wp2_with fail
  go_loopw [12] (fun iv wr => ∃ (k : Nat) (LL : List (Nat × List Nat)), k ≤ 16 ∧ iv = .int .i64 (k : Int) ∧ PArr g g wr LL ∧ (∀ j, j < k → LL.getD j (0, []) = Po.blank) ∧ PoAt PL PO Hw w.heap.size U V X wr B L P d (Wl.fresh 0 30) (Po.fresh (fun _ => Po.blank) F Po.area) ∧ Below w.heap.size w wr ∧ g ≤ wr.heap.size) (fun iv _ => 16 - (intOf iv).toNat)
  case atStart => exact ⟨0, _, Nat.zero_le _, rfl, HG0.out, fun j hj => absurd hj (Nat.not_lt_zero j), HP1.out, HB1.out, Nat.le_of_lt HG0.out.lt⟩
  case round =>
    clear HG0 HP1 HB1
    obtain ⟨k, LL, hk, rfl, hG, hL, hP, hb, hgz⟩ := hrel
    have HG := Lib.hid hG
    have HLL := Lib.hid hL
    have HP := Lib.hid hP
    have HB := Lib.hid hb
    have HGZ := Lib.hid hgz
    clear hG hL hP hb hgz
    by_cases hlt : k < 16
    · as_aux_lemma =>
        have HK := Lib.hid hlt
        have hki : (k : Int) < 16 := by omega
        have hk0 : (0 : Int) ≤ (k : Int) := by omega
        have hw1 := IntWalk.i64_in ((k : Int) + 1) (by omega)
        clear hlt
        go_wp2_with fail
        refine (refBlank_any wr).mono ?_
        rintro e w2 ⟨u, rfl, hO, hb⟩
        have hg2 := HG.out.below hb
        have HP2 := Lib.hid (HP.out.below HA.out hb)
        have HB2 := Lib.hid (HB.out.trans (hb.mono HB.out.size))
        obtain ⟨u0, c0, c1, f0, f1, -, -⟩ := hg2.at HK.out
        obtain ⟨hset, hT⟩ := hg2.set (k := 0) HK.out (hO.from HGZ.out)
        have HS := Lib.hid hset
        have HT := Lib.hid hT
        have HZ2 := Lib.hid (Nat.le_trans HGZ.out hb.size)
        have HLN := Lib.hid HG.out.len
        obtain ⟨p3, c3, rfl⟩ : ∃ p c, u = .slice p 500 c := by
          obtain ⟨p, c, e, -⟩ := hO.bts.form
          rw [Pg.zeros_length] at e
          exact ⟨p, c, e⟩
        clear hg2 hO hb hset hT HG HP HB
        rw [show ((0 : Nat) : Int) = 0 from rfl] at HS HT
        go_wp2_with fail
        go_roundw
        case rel =>
          refine ⟨k + 1, LL.set k (0, Pg.zeros 500), HK.out, by go_num, HS.out, fun j hj => ?_, ⟨HA.out.keep HP2.out.at_ HT.out fun i hi e => ?_, HP2.out.fu, HP2.out.fv, HP2.out.fx⟩, HB2.out.trans (HT.out.below (fun i e => by rw [e]; exact HGL.out) (HB2.out.size)), Nat.le_trans HZ2.out HT.out.size⟩
          · rw [List.getD_eq_getElem?_getD]
            by_cases he : k = j
            · subst he
              rw [List.getElem?_set_self (by rw [HLN.out]; exact HK.out)]
              rfl
            · rw [List.getElem?_set_ne he, ← List.getD_eq_getElem?_getD]
              exact HLL.out j (by omega)
          · have := HGX.out i hi
            have e : i = g := e
            omega
        case measure => simp [intOf]; omega
    · as_aux_lemma =>
        obtain rfl : k = 16 := by omega
        clear hlt hk
        rw [show ((16 : Nat) : Int) = 16 from rfl]
        go_wp2_with fail
        go_loopw [13] (fun iv wr => ∃ (k : Nat) (LL : List (Nat × List Nat)) (U V X : Nat → Prop) (d : Dk.Dev) (lg : Wl.S) (s : Po.S), k ≤ l.length ∧ iv = .int .i64 (k : Int) ∧ BkI PL PO Hw w.heap.size g F U V X w wr B L P d lg s LL) (fun iv _ => l.length - (intOf iv).toNat)
        case atStart => exact ⟨0, LL, U, V, X, d, _, _, Nat.zero_le _, rfl, ⟨HG.out.rebase HGL.out, fun i hi hb => (by have := HGX.out i hi; have := (HG.out.blk_lt i hb).1; omega), HP.out, HC.out, rfl, rfl, rfl, fun _ => rfl, fun j hj => ⟨HLL.out j hj, rfl⟩, HB.out⟩⟩
        case round =>
          clear HG HP HB HLL HGX HC
          obtain ⟨k, LL, U, V, X, d, lg, s, hk, rfl, hI⟩ := hrel
          have HI := Lib.hid hI
          have HKL := Lib.hid hk
          have HBZ := Lib.hid hI.bel.size
          clear hI hk
          by_cases hlt : k < l.length
          · as_aux_lemma =>
              have HLT := Lib.hid hlt
              obtain ⟨b, off, rfl, hx⟩ := HPP.out (by omega)
              have hxk := hx k hlt
              have hki : (k : Int) < (l.length : Int) := by omega
              have hk0 : (0 : Int) ≤ (k : Int) := by omega
              generalize l.getD k default = o at *
              obtain ⟨on, hon⟩ : ∃ z, z = o.n := ⟨_, rfl⟩
              obtain ⟨of, hof⟩ : ∃ z, z = o.fill := ⟨_, rfl⟩
              have C1 := Lib.hid hxk.c1
              have C2 := Lib.hid hxk.c2
              have HBW : Hid (b < w.heap.size) := block_lt_of_cell hxk.c1
              rw [← hon] at C1
              rw [← hof] at C2
              obtain ⟨q, hq⟩ : ∃ q, Po.at16 on = q := ⟨_, rfl⟩
              have hq1 : (IntKind.u64.wrap on).tmod 16 = (q : Int) := by rw [← hq]; exact Po.at16_eq on
              have hq2 : q < 16 := by rw [← hq]; exact Po.at16_lt on
              have hq3 : IntKind.i64.wrap (q : Int) = (q : Int) := IntWalk.i64_in _ (by omega)
              have HQ := Lib.hid hq2
              have c1 := (HI.out.bel.cell (p := ⟨b, off + k * 4 + 1, none⟩) HBW.out).trans C1.out
              have c2 := (HI.out.bel.cell (p := ⟨b, off + k * 4 + 2, none⟩) HBW.out).trans C2.out
              clear hx hxk hon hof hq hq2 hlt
              go_wp2_with fail
              refine (body11_any of wr).mono ?_
              rintro e w2 ⟨g2, rfl, hg2, hO, hb⟩
              clear c1 c2 hq1 hq3 hki hk0
              have hI2 := HI.out.below HA.out hb HBZ.out
              have hz2 : w.heap.size ≤ w2.heap.size := Nat.le_trans HBZ.out hb.size
              have hO1 := hO.from HBZ.out
              obtain ⟨u0, c0, c1, f0, f1, -, -⟩ := hI2.arr.at HQ.out
              obtain ⟨hset, -⟩ := hI2.arr.set (k := 0) HQ.out hO1
              have hS := hI2.stored HA.out HQ.out (x := Po.bodyL of) (u := .slice (some ⟨g2, 0, none⟩) 500 500) hO1 (fun i hi hb2 => by
                simp only [Value.ownBlock, Option.some.injEq] at hb2
                have := HA.out.lt HI.out.at_.at_ i hi
                omega) hz2
              obtain ⟨u1, d0, d1, -, -, hO3, -⟩ := hset.at HQ.out
              rw [List.getD_eq_getElem?_getD, List.getElem?_set_self (by rw [hI2.arr.len]; exact HQ.out), Option.getD_some] at d0 hO3
              have hd1 := hI2.arr.set_at (k := 0) HQ.out (.slice (some ⟨g2, 0, none⟩) 500 500)
              rw [hd1] at d1
              simp only [Option.some.injEq] at d1
              subst d1
              rw [show ((0 : Nat) : Int) = 0 from rfl] at d0 hd1 hO3
              have HS := Lib.hid hS
              have HO3 := Lib.hid hO3.bts
              have D0 := Lib.hid d0
              have D1 := Lib.hid hd1
              have hi1 : (q : Int) < 16 := by have := HQ.out; omega
              have hi2 : (0 : Int) ≤ (q : Int) := by omega
              have HZ3 : Hid (w.heap.size ≤ ((w2.setCell ⟨g, q * 2, none⟩ (.int .u64 0)).setCell ⟨g, q * 2 + 1, none⟩ (.slice (some ⟨g2, 0, none⟩) 500 500)).heap.size) := hS.bel.size
              clear hg2 hO hb hset hO1 hO3 d0 hd1 hS hI2 hz2
              go_upto_region 16 with (fail)
              generalize hW3 : ((w2.setCell ⟨g, q * 2, none⟩ (.int .u64 0)).setCell ⟨g, q * 2 + 1, none⟩ (.slice (some ⟨g2, 0, none⟩) 500 500)) = W3 at *
              clear hW3 c0 c1 f0 f1 HI
              have d0 := D0.out
              have d1 := D1.out
              go_wp2_with fail
              clear d0 d1 D0 D1 hi1 hi2
              refine (HA.out.put q (0, Po.bodyL of) _ HS.out.at_.at_ (HS.out.near HA.out) (by rw [HS.out.stop]; decide) (by rw [HS.out.ar]; have := HQ.out; show (q : Int) < 16; omega) (Or.inr (HS.out.free HF.out.1)) (Po.bodyL_ok of (by decide)) HO3.out (by rw [HS.out.stop]; show 0 < 52; decide)).mono ?_
              rintro e w4 h
              obtain ⟨d4, lg4, s4, rfl, U4, V4, X4, hI4⟩ := HS.out.put HA.out HQ.out h HZ3.out
              have HI4 := Lib.hid hI4
              clear h hI4
              have hw1 := IntWalk.i64_in ((k : Int) + 1) (by have := HLE.out; have := HLT.out; omega)
              go_wp2_with fail
              go_roundw
              case rel => exact ⟨k + 1, _, U4, V4, X4, d4, lg4, s4, HLT.out, by go_num, HI4.out⟩
              case measure => have := HLT.out; simp [intOf]; omega
          · as_aux_lemma =>
              obtain rfl : k = l.length := by have := HKL.out; omega
              clear hlt HKL
              go_wp2_with fail
              refine (HA.out.flushall HI.out.at_.at_ HI.out.calm (by rw [HI.out.stop]; decide)).mono ?_
              rintro e w5 ⟨rfl, d5, lg5, s5, hw, hC, hlf, hs⟩
              obtain ⟨U5, V5, X5, hP, hb, hT, g1, g2, g3⟩ := HI.out.at_.went hw HBZ.out
              have hA5 := HI.out.arr.touch hT (fun i h1 h2 => HI.out.ap i h2 h1)
              have hblk : w5.heap[g]? = wr.heap[g]? := hT.block g HI.out.arr.lt fun hh => HI.out.ap g hh (Or.inl rfl)
              have hap : ∀ i, Three U5 V5 X5 i → ¬ PArr.Blk w5 g i := fun i hi hk => by
                have hk9 := PArr.blk_same hblk i hk
                have hl9 := (HI.out.arr.blk_lt i hk9).2
                rcases hi with hi | hi | hi
                · rcases g1 i hi with h1 | h1
                  · exact HI.out.ap i (Or.inl h1) hk9
                  · omega
                · rcases g2 i hi with h1 | h1
                  · exact HI.out.ap i (Or.inr (Or.inl h1)) hk9
                  · omega
                · rcases g3 i hi with h1 | h1
                  · exact HI.out.ap i (Or.inr (Or.inr h1)) hk9
                  · omega
              obtain ⟨f, hf⟩ : ∃ f, f = s.now := ⟨_, rfl⟩
              have hcl : Po.Clean s5 f := ⟨by rw [hs.now, hf], hs.first⟩
              have HP := Lib.hid hP
              have HC := Lib.hid hC
              have HCL := Lib.hid hcl
              have HAR : Hid (s5.ar = Po.area) := hs.ar.trans HI.out.ar
              have HFR : Hid (s5.frames = F) := hs.frames.trans HI.out.fr
              have HPI : Hid (∀ k, s5.pins k = 0) := fun k => by rw [hs.pins]; exact HI.out.pins k
              have HST : Hid (lg5.stop = 52) := hlf.stop.trans HI.out.stop
              have HAA := Lib.hid hA5
              have HAP := Lib.hid hap
              have HB := Lib.hid (HI.out.bel.trans hb)
              have HFN : Hid (∀ j, j < 16 → LL.getD j (0, []) = f j) := fun j hj => by rw [hf]; exact (HI.out.now j hj).1
              clear hw hC hlf hs hP hb hT g1 g2 g3 hA5 hap hf hcl hblk HI HBZ
              go_wp2_with fail
              have hc := HA.out.dirty HP.out.at_ HC.out
              rw [HCL.out.dirts] at hc
              refine hc.mono ?_
              rintro e w6 ⟨v6, rfl, hO, hb⟩
              obtain ⟨p6, c6, rfl⟩ : ∃ p c, v6 = .slice p 0 c := by
                obtain ⟨p, c, e, -⟩ := hO.bts.form
                exact ⟨p, c, e⟩
              have HP6 := Lib.hid (HP.out.below HA.out hb)
              have HAA6 := Lib.hid (HAA.out.below hb)
              have HAP6 : Hid (∀ i, Three U5 V5 X5 i → ¬ PArr.Blk w6 g i) := fun i hi hk => HAP.out i hi (PArr.blk_same (hb.block g HAA.out.lt) i hk)
              have HB6 := Lib.hid (HB.out.trans (hb.mono HB.out.size))
              clear hc hO hb HP HAA HAP HB
              go_wp2_with fail
              refine (area_any w6).mono ?_
              rintro e w7 ⟨rfl, hb⟩
              have HP7 := Lib.hid (HP6.out.below HA.out hb)
              have HAA7 := Lib.hid (HAA6.out.below hb)
              have HAP7 : Hid (∀ i, Three U5 V5 X5 i → ¬ PArr.Blk w7 g i) := fun i hi hk => HAP6.out i hi (PArr.blk_same (hb.block g HAA6.out.lt) i hk)
              have HB7 := Lib.hid (HB6.out.trans (hb.mono HB6.out.size))
              clear hb HP6 HAA6 HAP6 HB6
              go_wp2_with fail
              have HGD := Lib.hid (HA.out.ogood HP7.out.at_.own)
              have HAW : Hid (Hw d5 Po.area f) := by
                have := HP7.out.at_.area
                rw [HAR.out, HCL.out.disk HGD.out] at this
                exact this
              have HOK : Hid (∀ k, Po.PgOk (f k)) := fun k => by rw [← HCL.out.1]; exact HGD.out.ok k
              refine (HA.out.make_pool O HP7.out.at_.log HC.out Po.area_fits Po.area_ok HAW.out HOK.out HOT.out.1 (by have := HOT.out; omega)).mono ?_
              rintro e w8 ⟨Q, Y, rfl, hQ, hY, hb⟩
              have HP8 := Lib.hid (HP7.out.below HA.out hb)
              have HAA8 := Lib.hid (HAA7.out.below hb)
              have HAP8 : Hid (∀ i, Three U5 V5 X5 i → ¬ PArr.Blk w8 g i) := fun i hi hk => HAP7.out i hi (PArr.blk_same (hb.block g HAA7.out.lt) i hk)
              have HB8 := Lib.hid (HB7.out.trans (hb.mono HB7.out.size))
              have HQ8 := Lib.hid hQ
              have HY1 : Hid (∀ i, Y i → w7.heap.size ≤ i) := hY
              have HY2 : Hid (∀ i, Three U5 V5 X5 i → i < w7.heap.size) := HA.out.lt HP7.out.at_
              have HY3 : Hid (∀ i, PArr.Blk w8 g i → i < w7.heap.size) := fun i hi => (HAA7.out.blk_lt i (PArr.blk_same (hb.block g HAA7.out.lt) i hi)).2
              have HYB := Lib.hid (from_new hY HB7.out.size)
              clear hb hQ hY HP7 HAA7 HAP7 HB7 HGD
              go_wp2_with fail
              refine (area_any w8).mono ?_
              rintro e w9 ⟨rfl, hb⟩
              have HP9 := Lib.hid (HP8.out.below HA.out hb)
              have HAA9 := Lib.hid (HAA8.out.below hb)
              have HAP9 : Hid (∀ i, Three U5 V5 X5 i → ¬ PArr.Blk w9 g i) := fun i hi hk => HAP8.out i hi (PArr.blk_same (hb.block g HAA8.out.lt) i hk)
              have HY9 : Hid (∀ i, PArr.Blk w9 g i → i < w7.heap.size) := fun i hi => HY3.out i (PArr.blk_same (hb.block g HAA8.out.lt) i hi)
              have HB9 := Lib.hid (HB8.out.trans (hb.mono HB8.out.size))
              have HQ9 := Lib.hid (HA.out.okeep HQ8.out (T := fun i => w8.heap.size ≤ i) (.of_below hb fun _ _ h => h) fun i hi => by have := HA.out.olt HQ8.out i hi; omega)
              clear hb HP8 HAA8 HAP8 HB8 HY3
              go_wp2_with fail
              refine (HA.out.mend HP9.out.at_.log HC.out Po.area_fits Po.area_ok (by have := HP9.out.at_.away; rw [HAR.out] at this; exact this) HAW.out).mono ?_
              rintro e w10 ⟨rfl, U6, d6, hL, hC6, hW6, hT, hG⟩
              have hdx : ∀ i, X5 i → ¬ U5 i := fun i hx hu => HP9.out.at_.off i (Or.inl hu) hx
              have hdy : ∀ i, Y i → ¬ Three U5 V5 X5 i := fun i hy hi => by have := HY1.out i hy; have := HY2.out i hi; omega
              have hgx : ∀ i, Both U6 V5 i → Both U5 V5 i ∨ w9.heap.size ≤ i := fun i hi => hi.elim (fun h => (hG i h).imp Or.inl id) fun h => Or.inl (Or.inr h)
              have hYl : ∀ i, Y i → i < w9.heap.size := HA.out.olt HQ9.out
              have hXl : ∀ i, X5 i → i < w9.heap.size := HA.out.olt HP9.out.at_.own
              have hB10 : Below w.heap.size w w10 := HB9.out.trans (hT.under HP9.out.fu HB9.out.size)
              have hTwo : Two PL PO Hw w.heap.size U6 V5 X5 Y w10 B L P Q d6 lg5 s5 (Po.fresh f O Po.area) f := by
                refine ⟨⟨⟨hL, HA.out.okeep HP9.out.at_.own hT hdx, ?_, fun i hi hx => ?_, HP9.out.at_.rule, HP9.out.at_.away⟩, hG.from HP9.out.fu HB9.out.size, HP9.out.fv, HP9.out.fx⟩, ⟨⟨hL, HA.out.okeep HQ9.out hT fun i hy hu => hdy i hy (Or.inl hu), hW6, fun i hi hy => ?_, ?_, ?_⟩, hG.from HP9.out.fu HB9.out.size, HP9.out.fv, HYB.out⟩, fun i hx hy => hdy i hy (Or.inr (Or.inr hx)), HCL.out, ⟨rfl, fun _ => rfl⟩⟩
                · rw [HAR.out, HCL.out.disk (HA.out.ogood HP9.out.at_.own)]; exact hW6
                · rcases hgx i hi with h | h
                  · exact HP9.out.at_.off i h hx
                  · have := hXl i hx; omega
                · rcases hgx i hi with h | h
                  · exact hdy i hy (h.elim Or.inl fun h => Or.inr (Or.inl h))
                  · have := hYl i hy; omega
                · intro k
                  have := HP9.out.at_.rule k
                  rw [HCL.out.disk (HA.out.ogood HP9.out.at_.own), HCL.out.1] at this
                  exact this
                · have := HP9.out.at_.away
                  rw [HAR.out] at this
                  exact this
              have hA10 := HAA9.out.touch hT (fun i h1 h2 => HAP9.out i (Or.inl h2) h1)
              have hbe : w10.heap[g]? = w9.heap[g]? := hT.block g HAA9.out.lt fun h => HAP9.out g (Or.inl h) (Or.inl rfl)
              have hAP10 : ∀ i, Four U6 V5 X5 Y i → ¬ PArr.Blk w10 g i := fun i hi hk => by
                have hk9 := PArr.blk_same hbe i hk
                have hk7 := HY9.out i hk9
                have hk9l := (HAA9.out.blk_lt i hk9).2
                rcases hi with (h | h | h) | h
                · rcases hG i h with h | h
                  · exact HAP9.out i (Or.inl h) hk9
                  · omega
                · exact HAP9.out i (Or.inr (Or.inl h)) hk9
                · exact HAP9.out i (Or.inr (Or.inr h)) hk9
                · have := HY1.out i h; omega
              have HTWO := Lib.hid hTwo
              have HA10 := Lib.hid hA10
              have HAP10 := Lib.hid hAP10
              have HB10 := Lib.hid hB10
              have HC10 := Lib.hid hC6
              clear hL hC6 hW6 hT hG hdx hdy hgx hYl hXl hB10 hTwo hA10 hbe hAP10 HP9 HAA9 HAP9 HY9 HB9 HQ9 HQ8 HY1 HY2 HYB HAW HC HCL
              go_wp2_with fail
              go_loopw [17] (fun iv wr => ∃ (k : Nat) (U V X Y : Nat → Prop) (s t : Po.S), k ≤ 16 ∧ iv = .int .i64 (k : Int) ∧ Two PL PO Hw w.heap.size U V X Y wr B L P Q d6 lg5 s t f ∧ PArr w.heap.size g wr LL ∧ (∀ i, Four U V X Y i → ¬ PArr.Blk wr g i) ∧ s.ar = Po.area ∧ t.ar = Po.area ∧ 1 ≤ s.frames ∧ 1 ≤ t.frames ∧ (∀ k, s.pins k = 0) ∧ (∀ k, t.pins k = 0) ∧ Below w.heap.size w wr) (fun iv _ => 16 - (intOf iv).toNat)
              case atStart => exact ⟨0, U6, V5, X5, Y, _, _, Nat.zero_le _, rfl, HTWO.out, HA10.out, HAP10.out, HAR.out, rfl, by rw [HFR.out]; exact HF.out.1, HOT.out.1, HPI.out, fun _ => rfl, HB10.out⟩
              case round =>
                clear HTWO HA10 HAP10 HB10 HAR HFR HPI
                obtain ⟨k, U, V, X, Y, s, t, hk, rfl, hTw, hA1, hap, hr1, hr2, hf1, hf2, hp1, hp2, hb⟩ := hrel
                have HTW := Lib.hid hTw
                have HAA := Lib.hid hA1
                have HAP := Lib.hid hap
                have HS : Hid (s.ar = Po.area ∧ 1 ≤ s.frames ∧ ∀ k, s.pins k = 0) := ⟨hr1, hf1, hp1⟩
                have HT : Hid (t.ar = Po.area ∧ 1 ≤ t.frames ∧ ∀ k, t.pins k = 0) := ⟨hr2, hf2, hp2⟩
                have HB := Lib.hid hb
                have HKL := Lib.hid hk
                clear hTw hA1 hap hr1 hr2 hf1 hf2 hp1 hp2 hb hk
                by_cases hlt : k < 16
                · as_aux_lemma =>
                    have HI := Lib.hid hlt
                    have hk0 : (k : Int) < 16 := by omega
                    have hc := HA.out.get k HTW.out.b.at_ HC10.out (by rw [HST.out]; decide) (by rw [HT.out.1]; exact hk0) (Or.inr (Po.not_full_none HT.out.2.2 HT.out.2.1))
                    rw [HTW.out.cb.1] at hc
                    obtain ⟨kn, hK⟩ : ∃ K, K = (f k).1 := ⟨_, rfl⟩
                    obtain ⟨bd, hbd⟩ : ∃ bd, bd = (f k).2 := ⟨_, rfl⟩
                    have HBL : Hid (bd.length = 500) := by show _ = _; rw [hbd]; exact (HOK.out k).2.1
                    rw [← hK, ← hbd] at hc
                    have HLK : Hid (LL.getD k (0, []) = (kn, bd)) := by show _ = _; rw [HFN.out k hlt, hK, hbd]
                    clear hlt hK hbd
                    go_wp2_with fail
                    refine hc.mono ?_
                    rintro e w2 ⟨u1, d', lg', t2, rfl, hO, hw, hC2, -, hm, -, hsame⟩
                    obtain ⟨e1, e2⟩ := hsame HTW.out.cb.2
                    rw [e1, e2] at hw
                    obtain ⟨U2, V2, Y2, hTw, hb, hT2, hgr, hun⟩ := HTW.out.gave HA.out hw hO hm HB.out.size
                    have hA2 := HAA.out.touch hT2 (fun i h1 h2 => HAP.out i (h2.elim (fun h => Or.inl (Or.inl h)) fun h => h.elim (fun h => Or.inl (Or.inr (Or.inl h))) Or.inr) h1)
                    have hbe : w2.heap[g]? = wr.heap[g]? := hT2.block g HAA.out.lt fun h => HAP.out g (h.elim (fun h => Or.inl (Or.inl h)) fun h => h.elim (fun h => Or.inl (Or.inr (Or.inl h))) Or.inr) (Or.inl rfl)
                    have hap : ∀ i, Four U2 V2 X Y2 i → ¬ PArr.Blk w2 g i := fun i hi hk => by
                      have hk9 := PArr.blk_same hbe i hk
                      have hk9l := (HAA.out.blk_lt i hk9).2
                      rcases hgr i hi with h | h
                      · exact HAP.out i h hk9
                      · omega
                    obtain ⟨p1, c1, rfl⟩ : ∃ p c, u1 = .slice p 500 c := by
                      obtain ⟨p, c, e, -⟩ := hO.bts.form
                      rw [HBL.out] at e
                      exact ⟨p, c, e⟩
                    have HTW2 := Lib.hid hTw
                    have HAA2 := Lib.hid hA2
                    have HAP2 := Lib.hid hap
                    have HT2 : Hid (t2.ar = Po.area ∧ 1 ≤ t2.frames ∧ ∀ k, t2.pins k = 0) := ⟨hm.ar.trans HT.out.1, by rw [hm.frames]; exact HT.out.2.1, fun k => by rw [hm.pins]; exact HT.out.2.2 k⟩
                    have HB2 := Lib.hid (HB.out.trans hb)
                    have HU1 := Lib.hid hun
                    have HO1 := Lib.hid hO
                    clear hc hO hw hC2 hm hsame e1 e2 hTw hb hT2 hgr hA2 hbe hap hun HTW HAA HAP HT HB
                    go_upto_region 27 with (fail)
                    obtain ⟨W, hW⟩ : ∃ W, W = w2.alloc (.cells #[.int .u64 (kn : Int), .slice p1 500 c1] 59) := ⟨_, rfl⟩
                    have hr : W.heap[w2.heap.size]? = some (.cells #[.int .u64 (kn : Int), .slice p1 500 c1] 59 (0, 0)) := by rw [hW]; exact heap_alloc_last _ _
                    have hb : Below w2.heap.size w2 W := by rw [hW]; exact (Below.refl _ _).alloc (Nat.le_refl _) _
                    rw [← hW]
                    have hql : ∀ i, Four U2 V2 X Y2 i → i < w2.heap.size := HTW2.out.lt HA.out
                    obtain ⟨Qa, hQ⟩ : ∃ Q, Q = w2.heap.size := ⟨_, rfl⟩
                    rw [← hQ] at hr hql ⊢
                    have A00 := Lib.hid (cell2_0 hr)
                    have A10 := Lib.hid (cell2_1 hr)
                    have HQA0 : Hid (Qa < W.heap.size) := lt_of_block hr
                    have HQL := Lib.hid hql
                    have HTW3 := Lib.hid (HTW2.out.below HA.out hb)
                    have HAA3 := Lib.hid (HAA2.out.below hb)
                    have HAP3 : Hid (∀ i, Four U2 V2 X Y2 i → ¬ PArr.Blk W g i) := fun i hi hk => HAP2.out i hi (PArr.blk_same (hb.block g HAA2.out.lt) i hk)
                    have HB3 := Lib.hid (HB2.out.trans (hb.mono HB2.out.size))
                    have HO10 := Lib.hid (HO1.out.below hb)
                    clear hW hr hb hQ hql HTW2 HAA2 HAP2 HB2 HO1
                    have hc := HA.out.get k HTW3.out.a.at_ HC10.out (by rw [HST.out]; decide) (by rw [HS.out.1]; exact hk0) (Or.inr (Po.not_full_none HS.out.2.2 HS.out.2.1))
                    rw [HTW3.out.ca.1, show (f k).1 = kn by rw [← HFN.out k HI.out, HLK.out], show (f k).2 = bd by rw [← HFN.out k HI.out, HLK.out]] at hc
                    clear hk0
                    go_wp2_with fail
                    refine hc.mono ?_
                    rintro e w4 ⟨u2, d', lg', s2, rfl, hO, hw, hC2, -, hm, -, hsame⟩
                    obtain ⟨e1, e2⟩ := hsame HTW3.out.ca.2
                    rw [e1, e2] at hw
                    obtain ⟨U4, V4, X4, hTw, hb, hT2, hgr, -⟩ := HTW3.out.swap.gave HA.out hw hO hm HB3.out.size
                    have hA2 := HAA3.out.touch hT2 (fun i h1 h2 => HAP3.out i (Or.inl h2) h1)
                    have hbe : w4.heap[g]? = W.heap[g]? := hT2.block g HAA3.out.lt fun h => HAP3.out g (Or.inl h) (Or.inl rfl)
                    have hap : ∀ i, Four U4 V4 X4 Y2 i → ¬ PArr.Blk w4 g i := fun i hi hk => by
                      have hk9 := PArr.blk_same hbe i hk
                      have hk9l := (HAA3.out.blk_lt i hk9).2
                      rcases hgr i (four_swap hi) with h | h
                      · exact HAP3.out i (four_swap h) hk9
                      · omega
                    obtain ⟨p2, c2, rfl⟩ : ∃ p c, u2 = .slice p 500 c := by
                      obtain ⟨p, c, e, -⟩ := hO.bts.form
                      rw [HBL.out] at e
                      exact ⟨p, c, e⟩
                    have hqa : ¬ Three U2 V2 X Qa := fun h => by have := HQL.out Qa (Or.inl h); omega
                    have HTW4 := Lib.hid hTw.swap
                    have HAA4 := Lib.hid hA2
                    have HAP4 := Lib.hid hap
                    have HS4 : Hid (s2.ar = Po.area ∧ 1 ≤ s2.frames ∧ ∀ k, s2.pins k = 0) := ⟨hm.ar.trans HS.out.1, by rw [hm.frames]; exact HS.out.2.1, fun k => by rw [hm.pins]; exact HS.out.2.2 k⟩
                    have HB4 := Lib.hid (HB3.out.trans hb)
                    have HO20 := Lib.hid hO
                    have HO12 := Lib.hid (HO10.out.touch hT2 fun b hb h => HU1.out b hb (Or.inl h))
                    have A02 := Lib.hid (hT2.cell A00.out hqa)
                    have A12 := Lib.hid (hT2.cell A10.out hqa)
                    have HQA2 : Hid (Qa < w4.heap.size) := Nat.lt_of_lt_of_le HQA0.out hT2.size
                    clear hc hO hw hC2 hm hsame e1 e2 hTw hb hT2 hgr hA2 hbe hap hqa HTW3 HAA3 HAP3 HS HB3 HO10 A00 A10 HQA0 HU1 HQL
                    go_upto_region 28 with (fail)
                    obtain ⟨W2, hW⟩ : ∃ W, W = w4.alloc (.cells #[.int .u64 (kn : Int), .slice p2 500 c2] 59) := ⟨_, rfl⟩
                    have hr : W2.heap[w4.heap.size]? = some (.cells #[.int .u64 (kn : Int), .slice p2 500 c2] 59 (0, 0)) := by rw [hW]; exact heap_alloc_last _ _
                    have hb : Below w4.heap.size w4 W2 := by rw [hW]; exact (Below.refl _ _).alloc (Nat.le_refl _) _
                    rw [← hW]
                    obtain ⟨Qb, hQ⟩ : ∃ Q, Q = w4.heap.size := ⟨_, rfl⟩
                    rw [← hQ] at hr ⊢
                    have B0 := Lib.hid (cell2_0 hr)
                    have B1 := Lib.hid (cell2_1 hr)
                    have HQB : Hid (Qb < W2.heap.size) := lt_of_block hr
                    have A0 := Lib.hid ((hb.cell (p := ⟨Qa, 0, none⟩) HQA2.out).trans A02.out)
                    have A1 := Lib.hid ((hb.cell (p := ⟨Qa, 1, none⟩) HQA2.out).trans A12.out)
                    have HQA : Hid (Qa < W2.heap.size) := Nat.lt_of_lt_of_le HQA2.out hb.size
                    have HTW5 := Lib.hid (HTW4.out.below HA.out hb)
                    have haa := HAA4.out.below hb
                    have HAA5 := Lib.hid haa
                    have HAP5 : Hid (∀ i, Four U4 V4 X4 Y2 i → ¬ PArr.Blk W2 g i) := fun i hi hk => HAP4.out i hi (PArr.blk_same (hb.block g HAA4.out.lt) i hk)
                    have HB5 := Lib.hid (HB4.out.trans (hb.mono HB4.out.size))
                    have HO1 := Lib.hid (HO12.out.below hb)
                    have HO2 := Lib.hid (HO20.out.below hb)
                    obtain ⟨v, g0, g1, -, -, hOV, -⟩ := haa.at HI.out
                    rw [HLK.out] at g0 hOV
                    have G0 := Lib.hid g0
                    have G1 := Lib.hid g1
                    have HOV := Lib.hid hOV
                    have HG : Hid (g < W2.heap.size) := haa.lt
                    clear hW hr hb hQ haa g0 g1 hOV HTW4 HAA4 HAP4 HB4 HO12 HO20 A02 A12 HQA2
                    refine Ord.walk (BkF kn g k (.slice p1 500 c1) (.slice p2 500 c2) v) (fun _ _ w' => Below W2.heap.size W2 w') (fun a b => Below a.heap.size a b)
                      (by kernel_rfl) (by kernel_rfl) ?fr ?hfr (fun i v w w' hb h => BkF_later _ _ _ _ _ _ i v w w' hb h) (fun xs => (Below.refl _ _).go1) ?he ?hend
                    case hfr =>
                      intro xs
                      simp only [Ord.fill, Act.put, List.setIfInBounds_toArray, List.set_cons_zero, List.set_cons_succ]
                      rfl
                    case he =>
                      refine Ord.each_cons (fun D xs w2 hD hC hP hR hA K hK => ?_) ?_
                      ·
                        clear hA
                        go_simp
                        exact hK _ _ ⟨_, rfl, Below.refl _ _, hR, rfl⟩
                      refine Ord.each_cons (fun D xs w2 hD hC hP hR hA K hK => ?_) ?_
                      ·
                        have q0 := Ord.ahead_get _ hA 0 (by decide)
                        simp only [BkF] at q0
                        simp only [q0] at hK
                        clear hA
                        go_simp
                        exact hK _ _ ⟨_, rfl, Below.refl _ _, hR, rfl⟩
                      refine Ord.each_cons (fun D xs w2 hD hC hP hR hA K hK => ?_) ?_
                      ·
                        have q1 := Ord.ahead_get _ hA 1 (by decide)
                        simp only [BkF] at q1
                        simp only [q1] at hK
                        clear hA
                        go_simp
                        exact hK _ _ ⟨_, rfl, Below.refl _ _, hR, rfl⟩
                      refine Ord.each_cons (fun D xs w2 hD hC hP hR hA K hK => ?_) ?_
                      ·
                        have q2 := Ord.ahead_get _ hA 2 (by decide)
                        simp only [BkF] at q2
                        simp only [q2] at hK
                        clear hA
                        go_simp
                        exact hK _ _ ⟨_, rfl, Below.refl _ _, hR, rfl⟩
                      refine Ord.each_cons (fun D xs w2 hD hC hP hR hA K hK => ?_) ?_
                      ·
                        have q3 := Ord.ahead_get _ hA 3 (by decide)
                        simp only [BkF] at q3
                        have q2 := Ord.ahead_get _ hA 2 (by decide)
                        simp only [BkF] at q2
                        simp only [q3, q2] at hK
                        clear hA
                        go_simp
                        exact hK _ _ ⟨_, rfl, Below.refl _ _, hR, rfl⟩
                      refine Ord.each_cons (fun D xs w2 hD hC hP hR hA K hK => ?_) ?_
                      ·
                        have q2 := Ord.ahead_get _ hA 2 (by decide)
                        simp only [BkF] at q2
                        have q4 := Ord.ahead_get _ hA 4 (by decide)
                        simp only [BkF] at q4
                        simp only [q2, q4] at hK
                        clear hA
                        go_simp
                        exact hK _ _ ⟨_, rfl, Below.refl _ _, hR, rfl⟩
                      refine Ord.each_cons (fun D xs w2 hD hC hP hR hA K hK => ?_) ?_
                      ·
                        have q5 := Ord.ahead_get _ hA 5 (by decide)
                        simp only [BkF] at q5
                        simp only [q5] at hK
                        clear hA
                        go_simp
                        exact hK _ _ ⟨_, rfl, Below.refl _ _, hR, rfl⟩
                      refine Ord.each_cons (fun D xs w2 hD hC hP hR hA K hK => ?_) ?_
                      ·
                        have q6 := Ord.ahead_get _ hA 6 (by decide)
                        simp only [BkF] at q6
                        simp only [q6] at hK
                        clear hA
                        have ca := (hR.cell (p := ⟨Qa, 0, none⟩) HQA.out).trans A0.out
                        have cb := (hR.cell (p := ⟨Qa, 1, none⟩) HQA.out).trans A1.out
                        go_simp
                        exact hK _ _ ⟨_, rfl, Below.refl _ _, hR, rfl⟩
                      refine Ord.each_cons (fun D xs w2 hD hC hP hR hA K hK => ?_) ?_
                      ·
                        have q6 := Ord.ahead_get _ hA 6 (by decide)
                        simp only [BkF] at q6
                        simp only [q6] at hK
                        clear hA
                        go_simp
                        exact hK _ _ ⟨_, rfl, Below.refl _ _, hR, rfl⟩
                      refine Ord.each_cons (fun D xs w2 hD hC hP hR hA K hK => ?_) ?_
                      ·
                        have q8 := Ord.ahead_get _ hA 8 (by decide)
                        simp only [BkF] at q8
                        have q6 := Ord.ahead_get _ hA 6 (by decide)
                        simp only [BkF] at q6
                        simp only [q8, q6] at hK
                        clear hA
                        have hi1 : (k : Int) < 16 := by have := HI.out; omega
                        have hi2 : (0 : Int) ≤ (k : Int) := by omega
                        go_simp
                        exact hK _ _ ⟨_, rfl, Below.refl _ _, hR, rfl⟩
                      refine Ord.each_cons (fun D xs w2 hD hC hP hR hA K hK => ?_) ?_
                      ·
                        have q9 := Ord.ahead_get _ hA 9 (by decide)
                        simp only [BkF] at q9
                        have q6 := Ord.ahead_get _ hA 6 (by decide)
                        simp only [BkF] at q6
                        simp only [q9, q6] at hK
                        clear hA
                        have ca := (hR.cell (p := ⟨g, k * 2, none⟩) HG.out).trans G0.out
                        have cb := (hR.cell (p := ⟨g, k * 2 + 1, none⟩) HG.out).trans G1.out
                        go_simp
                        exact hK _ _ ⟨_, rfl, Below.refl _ _, hR, rfl⟩
                      refine Ord.each_cons (fun D xs w2 hD hC hP hR hA K hK => ?_) ?_
                      ·
                        have q7 := Ord.ahead_get _ hA 7 (by decide)
                        simp only [BkF] at q7
                        have q10 := Ord.ahead_get _ hA 10 (by decide)
                        simp only [BkF] at q10
                        have q6 := Ord.ahead_get _ hA 6 (by decide)
                        simp only [BkF] at q6
                        simp only [q7, q10, q6] at hK
                        clear hA
                        go_simp
                        have hc := refSame_any kn kn (.slice p1 500 c1) v bd bd w2 (HO1.out.bts.below hR) (HOV.out.bts.below hR)
                        rw [Pg.same_self] at hc
                        refine hc.mono ?_
                        rintro e w' ⟨rfl, hb⟩
                        exact hK _ _ ⟨_, rfl, hb, hR.trans (hb.mono hR.size), rfl⟩
                      refine Ord.each_cons (fun D xs w2 hD hC hP hR hA K hK => ?_) ?_
                      ·
                        have q11 := Ord.ahead_get _ hA 11 (by decide)
                        simp only [BkF] at q11
                        have q6 := Ord.ahead_get _ hA 6 (by decide)
                        simp only [BkF] at q6
                        simp only [q11, q6] at hK
                        clear hA
                        go_simp
                        exact hK _ _ ⟨_, rfl, Below.refl _ _, hR, rfl⟩
                      refine Ord.each_cons (fun D xs w2 hD hC hP hR hA K hK => ?_) ?_
                      ·
                        have q6 := Ord.ahead_get _ hA 6 (by decide)
                        simp only [BkF] at q6
                        have q12 := Ord.ahead_get _ hA 12 (by decide)
                        simp only [BkF] at q12
                        simp only [q6, q12] at hK
                        clear hA
                        go_simp
                        exact hK _ _ ⟨_, rfl, Below.refl _ _, hR, rfl⟩
                      refine Ord.each_cons (fun D xs w2 hD hC hP hR hA K hK => ?_) ?_
                      ·
                        have q13 := Ord.ahead_get _ hA 13 (by decide)
                        simp only [BkF] at q13
                        simp only [q13] at hK
                        clear hA
                        go_simp
                        exact hK _ _ ⟨_, rfl, Below.refl _ _, hR, rfl⟩
                      refine Ord.each_cons (fun D xs w2 hD hC hP hR hA K hK => ?_) ?_
                      ·
                        have q14 := Ord.ahead_get _ hA 14 (by decide)
                        simp only [BkF] at q14
                        simp only [q14] at hK
                        clear hA
                        have ca := (hR.cell (p := ⟨Qb, 0, none⟩) HQB.out).trans B0.out
                        have cb := (hR.cell (p := ⟨Qb, 1, none⟩) HQB.out).trans B1.out
                        go_simp
                        exact hK _ _ ⟨_, rfl, Below.refl _ _, hR, rfl⟩
                      refine Ord.each_cons (fun D xs w2 hD hC hP hR hA K hK => ?_) ?_
                      ·
                        have q14 := Ord.ahead_get _ hA 14 (by decide)
                        simp only [BkF] at q14
                        simp only [q14] at hK
                        clear hA
                        go_simp
                        exact hK _ _ ⟨_, rfl, Below.refl _ _, hR, rfl⟩
                      refine Ord.each_cons (fun D xs w2 hD hC hP hR hA K hK => ?_) ?_
                      ·
                        have q16 := Ord.ahead_get _ hA 16 (by decide)
                        simp only [BkF] at q16
                        have q14 := Ord.ahead_get _ hA 14 (by decide)
                        simp only [BkF] at q14
                        simp only [q16, q14] at hK
                        clear hA
                        have hi1 : (k : Int) < 16 := by have := HI.out; omega
                        have hi2 : (0 : Int) ≤ (k : Int) := by omega
                        go_simp
                        exact hK _ _ ⟨_, rfl, Below.refl _ _, hR, rfl⟩
                      refine Ord.each_cons (fun D xs w2 hD hC hP hR hA K hK => ?_) ?_
                      ·
                        have q17 := Ord.ahead_get _ hA 17 (by decide)
                        simp only [BkF] at q17
                        have q14 := Ord.ahead_get _ hA 14 (by decide)
                        simp only [BkF] at q14
                        simp only [q17, q14] at hK
                        clear hA
                        have ca := (hR.cell (p := ⟨g, k * 2, none⟩) HG.out).trans G0.out
                        have cb := (hR.cell (p := ⟨g, k * 2 + 1, none⟩) HG.out).trans G1.out
                        go_simp
                        exact hK _ _ ⟨_, rfl, Below.refl _ _, hR, rfl⟩
                      refine Ord.each_cons (fun D xs w2 hD hC hP hR hA K hK => ?_) ?_
                      ·
                        have q15 := Ord.ahead_get _ hA 15 (by decide)
                        simp only [BkF] at q15
                        have q18 := Ord.ahead_get _ hA 18 (by decide)
                        simp only [BkF] at q18
                        have q14 := Ord.ahead_get _ hA 14 (by decide)
                        simp only [BkF] at q14
                        simp only [q15, q18, q14] at hK
                        clear hA
                        go_simp
                        have hc := refSame_any kn kn (.slice p2 500 c2) v bd bd w2 (HO2.out.bts.below hR) (HOV.out.bts.below hR)
                        rw [Pg.same_self] at hc
                        refine hc.mono ?_
                        rintro e w' ⟨rfl, hb⟩
                        exact hK _ _ ⟨_, rfl, hb, hR.trans (hb.mono hR.size), rfl⟩
                      refine Ord.each_cons (fun D xs w2 hD hC hP hR hA K hK => ?_) ?_
                      ·
                        have q19 := Ord.ahead_get _ hA 19 (by decide)
                        simp only [BkF] at q19
                        have q14 := Ord.ahead_get _ hA 14 (by decide)
                        simp only [BkF] at q14
                        simp only [q19, q14] at hK
                        clear hA
                        go_simp
                        exact hK _ _ ⟨_, rfl, Below.refl _ _, hR, rfl⟩
                      refine Ord.each_cons (fun D xs w2 hD hC hP hR hA K hK => ?_) ?_
                      ·
                        have q14 := Ord.ahead_get _ hA 14 (by decide)
                        simp only [BkF] at q14
                        have q20 := Ord.ahead_get _ hA 20 (by decide)
                        simp only [BkF] at q20
                        simp only [q14, q20] at hK
                        clear hA
                        go_simp
                        exact hK _ _ ⟨_, rfl, Below.refl _ _, hR, rfl⟩
                      exact Ord.each_nil
                    case hend =>
                      intro D xs w9 hR hF
                      have e21 := (hF 21 (by decide)).2
                      simp only [BkF] at e21
                      rw [e21]
                      clear e21
                      clear hF
                      generalize xs 0 = x0 at *
                      generalize xs 1 = x1 at *
                      generalize xs 2 = x2 at *
                      generalize xs 3 = x3 at *
                      generalize xs 4 = x4 at *
                      generalize xs 5 = x5 at *
                      generalize xs 6 = x6 at *
                      generalize xs 7 = x7 at *
                      generalize xs 8 = x8 at *
                      generalize xs 9 = x9 at *
                      generalize xs 10 = x10 at *
                      generalize xs 11 = x11 at *
                      generalize xs 12 = x12 at *
                      generalize xs 13 = x13 at *
                      generalize xs 14 = x14 at *
                      generalize xs 15 = x15 at *
                      generalize xs 16 = x16 at *
                      generalize xs 17 = x17 at *
                      generalize xs 18 = x18 at *
                      generalize xs 19 = x19 at *
                      generalize xs 20 = x20 at *
                      have HTW6 := Lib.hid (HTW5.out.below HA.out hR)
                      have HAA6 := Lib.hid (HAA5.out.below hR)
                      have HAP6 : Hid (∀ i, Four U4 V4 X4 Y2 i → ¬ PArr.Blk w9 g i) := fun i hi hk => HAP5.out i hi (PArr.blk_same (hR.block g HAA5.out.lt) i hk)
                      have HB6 := Lib.hid (HB5.out.trans (hR.mono HB5.out.size))
                      clear hR HTW5 HAA5 HAP5 HB5
                      have hw1 := IntWalk.i64_in ((k : Int) + 1) (by have := HI.out; omega)
                      go_wp2_with fail
                      go_roundw
                      case rel => exact ⟨k + 1, U4, V4, X4, Y2, s2, t2, HI.out, by go_num, HTW6.out, HAA6.out, HAP6.out, HS4.out.1, HT2.out.1, HS4.out.2.1, HT2.out.2.1, HS4.out.2.2, HT2.out.2.2, HB6.out⟩
                      case measure => have := HI.out; simp [intOf]; omega
                · as_aux_lemma =>
                    obtain rfl : k = 16 := by have := HKL.out; omega
                    clear hlt
                    go_wp2_with fail
                    refine (known_any HA.out _).mono ?_
                    rintro e w2 ⟨rfl, hb2⟩
                    go_wp2_with fail
                    go_ret
                    exact ⟨rfl, HB.out.trans (hb2.mono HB.out.size)⟩
end
end Go.Proofs.YtbpodmallknhfaaGreat
namespace Go.Proofs.YtbpodmallknhfaaGreat.Rg
open Go.Proofs.YtbpodmallknhfaaGreat
def mark : List Nat := [112, 117, 116, 32, 98, 97, 99, 107, 32]
def tag (n t : Nat) : List Nat := mark ++ [t, n % 256, n / 256 % 256]
def part (k : Nat) (l : List Nat) (i : Nat) : List Nat := (l.drop (k * i)).take k
def row (t b : List Nat) (m : Nat) : List Nat := (List.range m).flatMap fun i => t ++ part 52 b i
def laid (b t : List Nat) : List Nat := row t b 10 ++ List.replicate 8 0
def had (s : List Nat) (m : Nat) : List Nat := (List.range m).map fun i => (part 64 s i).getD 9 0
def turnOf (s : List Nat) : Nat := s.getD 9 0
def pageOf (s : List Nat) : Nat := s.getD 10 0 + 256 * s.getD 11 0
def Told (s : List Nat) : Prop := ∀ i, i < 10 → (part 64 s i).take 12 = tag (pageOf s) (turnOf s)
def rest (s : List Nat) (m : Nat) : List Nat := (List.range m).flatMap fun i => (part 64 s i).drop 12
def cut (s : List Nat) : List Nat := (rest s 10).take 512
def Whole (s : List Nat) (n : Nat) (x : Po.Pg) : Prop := Told s ∧ pageOf s = n ∧ Pg.openE (cut s) = 0 ∧ x = (Pg.openN (cut s), Pg.openL (cut s))
theorem tag_length (n t : Nat) : (tag n t).length = 12 := rfl
theorem tag_lo (n t : Nat) : (tag n t).getD 10 0 = n % 256 := rfl
theorem tag_hi (n t : Nat) : (tag n t).getD 11 0 = n / 256 % 256 := rfl
theorem tag_lt {n t : Nat} (ht : t < 256) : ∀ x ∈ tag n t, x < 256 := by
  intro x hx
  simp only [tag, mark, List.cons_append, List.nil_append, List.mem_cons, List.not_mem_nil, or_false] at hx
  omega
theorem part_length {k : Nat} {l : List Nat} {i : Nat} (h : k * (i + 1) ≤ l.length) : (part k l i).length = k := by
  have : k * (i + 1) = k * i + k := Nat.mul_succ k i
  simp only [part, List.length_take, List.length_drop]
  omega
theorem part_le (k : Nat) (l : List Nat) (i : Nat) : (part k l i).length ≤ k := by simp only [part, List.length_take]; omega
theorem part_lt {k : Nat} {l : List Nat} (h : ∀ x ∈ l, x < 256) (i : Nat) : ∀ x ∈ part k l i, x < 256 := fun x hx => h x (List.mem_of_mem_drop (List.mem_of_mem_take hx))
theorem join_parts (k : Nat) (l : List Nat) : ∀ m : Nat, (List.range m).flatMap (part k l) = l.take (k * m)
  | 0 => by simp
  | m + 1 => by
    rw [List.range_succ, List.flatMap_append, join_parts k l m, Nat.mul_succ]
    simp only [List.flatMap_cons, List.flatMap_nil, List.append_nil]
    rw [List.take_add]
    rfl
theorem ext_parts {a b : List Nat} (ha : a.length = 640) (hb : b.length = 640) (h : ∀ i, i < 10 → part 64 a i = part 64 b i) : a = b := by
  have e1 := join_parts 64 a 10
  have e2 := join_parts 64 b 10
  rw [List.take_of_length_le (by omega)] at e1 e2
  rw [← e1, ← e2]
  have : ∀ l : List Nat, (∀ i ∈ l, i < 10) → l.flatMap (part 64 a) = l.flatMap (part 64 b) := by
    intro l
    induction l with
    | nil => intro _; rfl
    | cons x l ih =>
      intro hl
      rw [List.flatMap_cons, List.flatMap_cons, h x (hl x (List.mem_cons_self ..)), ih fun i hi => hl i (List.mem_cons_of_mem _ hi)]
  exact this _ fun i hi => List.mem_range.1 hi
theorem row_succ (t b : List Nat) (m : Nat) : row t b (m + 1) = row t b m ++ (t ++ part 52 b m) := by
  unfold row
  rw [List.range_succ, List.flatMap_append]
  simp only [List.flatMap_cons, List.flatMap_nil, List.append_nil]
theorem row_length {t b : List Nat} (ht : t.length = 12) (hb : b.length = 512) : ∀ m, m ≤ 9 → (row t b m).length = 64 * m
  | 0, _ => rfl
  | m + 1, h => by
    rw [row_succ, List.length_append, List.length_append, row_length ht hb m (by omega), ht, part_length (by omega)]
    omega
theorem part_last {b : List Nat} (hb : b.length = 512) : (part 52 b 9).length = 44 := by
  simp only [part, List.length_take, List.length_drop]
  omega
theorem row_full {t b : List Nat} (ht : t.length = 12) (hb : b.length = 512) : (row t b 10).length = 632 := by
  rw [row_succ, List.length_append, List.length_append, row_length ht hb 9 (by omega), ht, part_last hb]
theorem laid_length {t b : List Nat} (ht : t.length = 12) (hb : b.length = 512) : (laid b t).length = 640 := by
  unfold laid
  rw [List.length_append, row_full ht hb, List.length_replicate]
theorem row_lt {t b : List Nat} (ht : ∀ x ∈ t, x < 256) (hb : ∀ x ∈ b, x < 256) (m : Nat) : ∀ x ∈ row t b m, x < 256 := by
  intro x hx
  unfold row at hx
  obtain ⟨i, -, hi⟩ := List.mem_flatMap.1 hx
  rcases List.mem_append.1 hi with h | h
  · exact ht x h
  · exact part_lt hb i x h
theorem laid_lt {t b : List Nat} (ht : ∀ x ∈ t, x < 256) (hb : ∀ x ∈ b, x < 256) : ∀ x ∈ laid b t, x < 256 := by
  intro x hx
  rcases List.mem_append.1 hx with h | h
  · exact row_lt ht hb 10 x h
  · rw [List.eq_of_mem_replicate h]; decide
theorem part_pre {a c : List Nat} {i : Nat} (h : 64 * (i + 1) ≤ a.length) : part 64 (a ++ c) i = part 64 a i := by
  have : 64 * (i + 1) = 64 * i + 64 := by omega
  unfold part
  rw [List.drop_append_of_le_length (by omega), List.take_append_of_le_length (by rw [List.length_drop]; omega)]
theorem part_at {a c : List Nat} {i : Nat} (h : a.length = 64 * i) (hc : c.length ≤ 64) : part 64 (a ++ c) i = c := by
  unfold part
  rw [List.drop_left' h, List.take_of_length_le hc]
theorem row_part {t b : List Nat} (ht : t.length = 12) (hb : b.length = 512) : ∀ m, m ≤ 9 → ∀ i, i < m → part 64 (row t b m) i = t ++ part 52 b i
  | 0, _, _, h => absurd h (Nat.not_lt_zero _)
  | m + 1, hm, i, hi => by
    rw [row_succ]
    have hl := row_length ht hb m (by omega)
    rcases Nat.lt_or_ge i m with h | h
    · rw [part_pre (by rw [hl]; omega), row_part ht hb m (by omega) i h]
    · obtain rfl : i = m := by omega
      exact part_at hl (by rw [List.length_append, ht, part_length (by omega)]; omega)
theorem laid_split (b t : List Nat) : laid b t = row t b 9 ++ ((t ++ part 52 b 9) ++ List.replicate 8 0) := by
  unfold laid
  rw [row_succ, List.append_assoc]
theorem laid_part {t b : List Nat} (ht : t.length = 12) (hb : b.length = 512) {i : Nat} (hi : i < 10) : part 64 (laid b t) i = if i < 9 then t ++ part 52 b i else (t ++ part 52 b 9) ++ List.replicate 8 0 := by
  rw [laid_split]
  have hl := row_length ht hb 9 (Nat.le_refl _)
  by_cases h : i < 9
  · rw [if_pos h, part_pre (by rw [hl]; omega), row_part ht hb 9 (Nat.le_refl _) i h]
  · obtain rfl : i = 9 := by omega
    rw [if_neg h]
    exact part_at hl (by rw [List.length_append, List.length_append, ht, part_last hb, List.length_replicate]; decide)
theorem laid_take {t b : List Nat} (ht : t.length = 12) (hb : b.length = 512) {i : Nat} (hi : i < 10) : (part 64 (laid b t) i).take 12 = t := by
  rw [laid_part ht hb hi]
  split
  · exact List.take_left' ht
  · rw [List.append_assoc]; exact List.take_left' ht
theorem laid_drop {t b : List Nat} (ht : t.length = 12) (hb : b.length = 512) {i : Nat} (hi : i < 10) : (part 64 (laid b t) i).drop 12 = if i < 9 then part 52 b i else part 52 b 9 ++ List.replicate 8 0 := by
  rw [laid_part ht hb hi]
  by_cases h : i < 9
  · rw [if_pos h, if_pos h, List.drop_left' ht]
  · rw [if_neg h, if_neg h, List.append_assoc, List.drop_left' ht]
theorem rest_succ (s : List Nat) (m : Nat) : rest s (m + 1) = rest s m ++ (part 64 s m).drop 12 := by
  unfold rest
  rw [List.range_succ, List.flatMap_append]
  simp only [List.flatMap_cons, List.flatMap_nil, List.append_nil]
theorem rest_laid {t b : List Nat} (ht : t.length = 12) (hb : b.length = 512) : ∀ m, m ≤ 9 → rest (laid b t) m = (List.range m).flatMap (part 52 b)
  | 0, _ => rfl
  | m + 1, h => by
    rw [rest_succ, rest_laid ht hb m (by omega), laid_drop ht hb (by omega), if_pos (by omega), List.range_succ, List.flatMap_append]
    simp only [List.flatMap_cons, List.flatMap_nil, List.append_nil]
theorem cut_laid {t b : List Nat} (ht : t.length = 12) (hb : b.length = 512) : cut (laid b t) = b := by
  unfold cut
  rw [rest_succ, rest_laid ht hb 9 (Nat.le_refl _), laid_drop ht hb (by decide), if_neg (by decide), ← List.append_assoc]
  have e := join_parts 52 b 10
  rw [List.take_of_length_le (by omega), List.range_succ, List.flatMap_append] at e
  simp only [List.flatMap_cons, List.flatMap_nil, List.append_nil] at e
  rw [e, List.take_left' hb]
theorem part_getD {k : Nat} {l : List Nat} {i j : Nat} (hj : j < k) : (part k l i).getD j 0 = l.getD (k * i + j) 0 := by
  unfold part
  simp only [List.getD_eq_getElem?_getD, List.getElem?_take, List.getElem?_drop, if_pos hj]
theorem take_getD {l : List Nat} {n j : Nat} (hj : j < n) : (l.take n).getD j 0 = l.getD j 0 := by
  simp only [List.getD_eq_getElem?_getD, List.getElem?_take, if_pos hj]
theorem turn_part (s : List Nat) : turnOf s = (part 64 s 0).getD 9 0 := by rw [part_getD (by decide)]; rfl
theorem page_part (s : List Nat) : pageOf s = (part 64 s 0).getD 10 0 + 256 * (part 64 s 0).getD 11 0 := by
  rw [part_getD (by decide), part_getD (by decide)]; rfl
theorem laid_turn {n t : Nat} {b : List Nat} (hb : b.length = 512) : turnOf (laid b (tag n t)) = t := by
  rw [turn_part, ← take_getD (n := 12) (by decide), laid_take (tag_length n t) hb (by decide)]
  rfl
theorem laid_page {n t : Nat} {b : List Nat} (hb : b.length = 512) (hn : n < 65536) : pageOf (laid b (tag n t)) = n := by
  rw [page_part, ← take_getD (n := 12) (by decide), ← take_getD (n := 12) (j := 11) (by decide), laid_take (tag_length n t) hb (by decide), tag_lo, tag_hi]
  omega
theorem whole_laid {n t : Nat} {x : Po.Pg} (hx : Po.PgOk x) (hn : n < 65536) : Whole (laid (Pg.form x.1 x.2) (tag n t)) n x := by
  have hb : (Pg.form x.1 x.2).length = 512 := by rw [Pg.form_length, hx.2.1]
  refine ⟨fun i hi => ?_, laid_page hb hn, ?_, ?_⟩
  · rw [laid_take (tag_length n t) hb hi, laid_turn hb, laid_page hb hn]
  · rw [cut_laid (tag_length n t) hb]; exact Pg.openE_form hx.2.2 hx.2.1
  · rw [cut_laid (tag_length n t) hb, Pg.openN_form hx.2.2 hx.2.1 hx.1, Pg.openL_form hx.2.2 hx.2.1]
def Mix (a b c : List Nat) : Prop := c.length = 640 ∧ ∀ i, i < 10 → part 64 c i = part 64 a i ∨ part 64 c i = part 64 b i
theorem had_mem {s : List Nat} {m i : Nat} (h : i < m) : (part 64 s i).getD 9 0 ∈ had s m := List.mem_map.2 ⟨i, List.mem_range.2 h, rfl⟩
theorem mix_told {a c : List Nat} {n t : Nat} {b : List Nat} (ha : a.length = 640) (hb : b.length = 512) (ht : t ∉ had a 10) (hm : Mix a (laid b (tag n t)) c) (hc : Told c) : c = a ∨ c = laid b (tag n t) := by
  have hl := laid_length (tag_length n t) hb
  have hturn : ∀ i, i < 10 → (part 64 c i).getD 9 0 = turnOf c := fun i hi => by
    rw [← take_getD (n := 12) (by decide), hc i hi]; rfl
  have hnew : ∀ i, i < 10 → part 64 c i = part 64 (laid b (tag n t)) i → turnOf c = t := fun i hi e => by
    rw [← hturn i hi, e, ← take_getD (n := 12) (by decide), laid_take (tag_length n t) hb hi]; rfl
  have hold : ∀ i, i < 10 → part 64 c i = part 64 a i → turnOf c ≠ t := fun i hi e h => by
    have := had_mem (s := a) hi
    rw [← e, hturn i hi, h] at this
    exact ht this
  by_cases h : turnOf c = t
  · refine Or.inr (ext_parts hm.1 hl fun i hi => ?_)
    rcases hm.2 i hi with e | e
    · exact absurd h (hold i hi e)
    · exact e
  · refine Or.inl (ext_parts hm.1 ha fun i hi => ?_)
    rcases hm.2 i hi with e | e
    · exact e
    · exact absurd (hnew i hi e) h
theorem told_first {s : List Nat} (h : Told s) : s.getD 0 0 = 112 ∧ s.getD 64 0 = 112 := by
  have h0 := h 0 (by decide)
  have h1 := h 1 (by decide)
  have e0 := part_getD (k := 64) (l := s) (i := 0) (j := 0) (by decide)
  have e1 := part_getD (k := 64) (l := s) (i := 1) (j := 0) (by decide)
  rw [← take_getD (n := 12) (by decide), h0] at e0
  rw [← take_getD (n := 12) (by decide), h1] at e1
  exact ⟨e0.symm, e1.symm⟩
theorem openL_len {b : List Nat} (h : Pg.openE b = 0) : (Pg.openL b).length = 500 := by
  have hl : b.length = 512 := by
    unfold Pg.openE at h
    split at h
    · cases h
    · omega
  unfold Pg.openL
  rw [if_pos h, List.length_drop]; omega
end Go.Proofs.YtbpodmallknhfaaGreat.Rg
