/- A form read by the document's own way: what stands while operations float. Conditions: none. -/
import Derived.Test.YtbfpmpomcaijcaaSlForm
import Derived.Test.YtbfpmpomcaijcaaSlRdPure
import Derived.Test.YtbfpmpomcaijcaaSpReadR
import Derived.Test.YtbfpmpomcaijcaaSpInsR
import Derived.Test.YtbfpmpomcaijcaaSlSame
import Derived.Test.YtbfpmpomcaijcaaCodeRRd
namespace Go.Proofs.Ytbfpmpomcaijcaa
open Go.RowKit

namespace Sl
/-- The texts as they are cut from what is behind the marks. -/
def dtx (r : List Nat) (b : List Nat) (k : Nat) : List (List Nat) := (List.range k).map fun i => (r.drop (off b i)).take (szz b i)
theorem dtx_succ (r b : List Nat) (k : Nat) : dtx r b (k + 1) = dtx r b k ++ [(r.drop (off b k)).take (szz b k)] := by unfold dtx; rw [List.range_succ, List.map_append]; rfl
theorem dtx_rs (b : List Nat) (k : Nat) : dtx (rs b) b k = dt b k := rfl
theorem dtx_length (r b : List Nat) (k : Nat) : (dtx r b k).length = k := by simp [dtx]
theorem ne_form {a b : List Nat} (ha : ∀ x ∈ a, x < 256) (hb : ∀ x ∈ b, x < 256) (h : a ≠ b) : ((strOfNums (a.map fun x : Nat => (x : Int))).toList == (strOfNums (b.map fun x : Nat => (x : Int))).toList) = false := str_ne ha hb h
end Sl

/-- What is read of blocks that were there before, was there before. -/
theorem bts_back {w w' : World} {v : Value} {l : List Nat} (h : Bts w' v l) (hb : Below w.heap.size w w') (hl : 0 < l.length → ∀ g, v.ownBlock = some g → g < w.heap.size) : Bts w v l := by
  obtain ⟨p, cap, hv, hr, hn, hp⟩ := h.form
  refine ⟨⟨p, cap, hv, hr, hn, fun h0 => ?_⟩, h.small, h.len⟩
  obtain ⟨b, off, hpe, hc⟩ := hp h0
  have hlt := hl h0 b (by rw [hv, hpe]; rfl)
  refine ⟨b, off, hpe, fun i hi => ?_⟩
  have := hc i hi
  rw [hb.cell (p := ⟨b, off + i, none⟩) hlt] at this
  exact this

/-- A bool put behind the others: what stands. -/
structure B8R (b0 X : Nat) (kv nv fv dv : Value) (l : List Bool) (x : Bool) (vs : List Value) (ls : List (List Nat)) (sv : Value) (ms : List Int) (W : World) (D : Nat → Bool) (xs : Nat → Value) (w : World) : Prop where
  bel : Below b0 W w
  big : b0 ≤ W.heap.size
  xb : b0 ≤ X
  dat : DOwn b0 w dv vs ls
  siz : Ints.Own b0 w sv ms
  blk : w.heap[X]? = some (.cells #[kv, nv, (if D 10 then xs 8 else fv), dv] 26 (0, 0))
  full0 : D 8 = false → Bo.Own b0 w fv (FB l)
  a7 : D 7 = true → D 8 = false → Bo.Own b0 w (xs 7) [.bool x]
  full1 : D 8 = true → Bo.Own b0 w (xs 8) (FB (l ++ [x]))
section
variable {b0 X : Nat} {kv nv fv dv : Value} {l : List Bool} {x : Bool} {vs : List Value} {ls : List (List Nat)} {sv : Value} {ms : List Int} {W w w' : World} {D : Nat → Bool} {xs : Nat → Value} {u : Value}
theorem B8R.first (xs : Nat → Value) (h1 : b0 ≤ W.heap.size) (h2 : b0 ≤ X) (h3 : DOwn b0 W dv vs ls) (h4 : Ints.Own b0 W sv ms) (h5 : W.heap[X]? = some (.cells #[kv, nv, fv, dv] 26 (0, 0))) (h6 : Bo.Own b0 W fv (FB l)) : B8R b0 X kv nv fv dv l x vs ls sv ms W (fun _ => false) xs W.drew := by
  have hb : Below W.heap.size W W.drew := (Below.refl _ _).go1
  exact ⟨(Below.refl _ _).go1, h1, h2, h3.below hb, h4.below hb, by rw [if_neg (by decide)]; exact h5, fun _ => h6.below hb, fun h => (by cases h), fun h => (by cases h)⟩
theorem B8R.skip (h : B8R b0 X kv nv fv dv l x vs ls sv ms W D xs w) (j : Nat) (hj : (j != 7 && j != 8 && j != 10) = true) : B8R b0 X kv nv fv dv l x vs ls sv ms W (Ord.wth D j) (Ord.set xs j u) w := by
  simp only [Bool.and_eq_true, bne_iff_ne] at hj
  obtain ⟨⟨n7, n8⟩, n10⟩ := hj
  refine ⟨h.bel, h.big, h.xb, h.dat, h.siz, ?_, ?_, ?_, ?_⟩
  · rw [wth_ne _ (Ne.symm n10), oset_ne _ _ (Ne.symm n8)]; exact h.blk
  · rw [wth_ne _ (Ne.symm n8)]; exact h.full0
  · rw [wth_ne _ (Ne.symm n7), wth_ne _ (Ne.symm n8), oset_ne _ _ (Ne.symm n7)]; exact h.a7
  · rw [wth_ne _ (Ne.symm n8), oset_ne _ _ (Ne.symm n8)]; exact h.full1
theorem B8R.op7 (h : B8R b0 X kv nv fv dv l x vs ls sv ms W D xs w) (hu : u = .slice (some ⟨w.heap.size, 0, none⟩) 1 1) : B8R b0 X kv nv fv dv l x vs ls sv ms W (Ord.wth D 7) (Ord.set xs 7 u) (w.alloc (.cells #[.bool x] 4)) := by
  have hb := below_new w (.cells #[.bool x] 4)
  have hs := Nat.le_trans h.big h.bel.size
  refine ⟨h.bel.trans (hb.mono hs), h.big, h.xb, h.dat.below hb, h.siz.below hb, ?_, ?_, ?_, ?_⟩
  · rw [wth_ne _ (by decide), oset_ne _ _ (by decide), hb.block _ (lt_of_block h.blk)]; exact h.blk
  · rw [wth_ne _ (by decide)]; exact fun a => (h.full0 a).below hb
  · rw [oset_self, hu]
    exact fun _ _ => ⟨World.ownsRow_lit w #[.bool x] 1 hs (by unfold maxLen; omega) rfl, fun y hy => by rw [List.mem_singleton.1 hy]; rfl, by simp⟩
  · rw [wth_ne _ (by decide), oset_ne _ _ (by decide)]; exact fun a => (h.full1 a).below hb
theorem B8R.op8 (h : B8R b0 X kv nv fv dv l x vs ls sv ms W D xs w) (hD : D 8 = false) (h10 : D 10 = false) (hO : Bo.Own b0 w' u (FB l ++ [.bool x])) (hb : Below b0 w w') (hg : w.grownBy w' fv.ownBlock) : B8R b0 X kv nv fv dv l x vs ls sv ms W (Ord.wth D 8) (Ord.set xs 8 u) w' := by
  have hf := h.full0 hD
  refine ⟨h.bel.trans hb, h.big, h.xb, h.dat.grown hg (apart_rows h.dat.own.own hf.own (by decide)) (fun i hi => apart_rows (h.dat.each i hi).own hf.own (by decide)), h.siz.grown hg (apart_rows h.siz.own hf.own (by decide)), ?_, ?_, ?_, ?_⟩
  · have hx := h.blk
    rw [wth_ne _ (by decide), h10, if_neg (by decide : ¬ false = true)]
    rw [h10, if_neg (by decide : ¬ false = true)] at hx
    rw [hg.block _ (lt_of_block hx) (ne_blk hf.own hx (by decide))]; exact hx
  · rw [wth_self]; intro a; cases a
  · rw [wth_self]; intro _ a; cases a
  · rw [oset_self]
    have e : FB l ++ [.bool x] = FB (l ++ [x]) := by unfold FB; rw [List.map_append]; rfl
    rw [e] at hO
    exact fun _ => hO
theorem B8R.op10 (h : B8R b0 X kv nv fv dv l x vs ls sv ms W D xs w) (h8 : D 8 = true) : B8R b0 X kv nv fv dv l x vs ls sv ms W (Ord.wth D 10) (Ord.set xs 10 u) (w.setCell ⟨X, 2, none⟩ (xs 8)) := by
  have hg := grownBy_setCell w X 2 (xs 8)
  refine ⟨below_grown h.bel hg (Nat.le_trans h.big h.bel.size) h.xb, h.big, h.xb, h.dat.blk h.blk hg, h.siz.grown hg (row_ne_blk h.siz.own h.blk (by decide)), ?_, ?_, ?_, ?_⟩
  · rw [wth_self, oset_ne _ _ (by decide), if_pos rfl]; exact (set4 h.blk).1
  · rw [wth_ne _ (by decide), h8]; intro a; cases a
  · rw [wth_ne _ (by decide), wth_ne _ (by decide), h8]; intro _ a; cases a
  · rw [wth_ne _ (by decide), oset_ne _ _ (by decide)]; exact fun a => (h.full1 a).grown hg (row_ne_blk (h.full1 a).own h.blk (by decide))
end

/-- A text copied, and put behind the others: what stands. -/
structure C7R (b0 X : Nat) (kv nv fv dv : Value) (l : List Bool) (vs : List Value) (ls : List (List Nat)) (b : List Nat) (sv : Value) (ms : List Int) (W : World) (D : Nat → Bool) (xs : Nat → Value) (w : World) : Prop where
  bel : Below b0 W w
  big : b0 ≤ W.heap.size
  xb : b0 ≤ X
  lt : ∀ i, i < ls.length → ∀ g, (vs.getD i nilS).ownBlock = some g → g < W.heap.size
  full : Bo.Own b0 w fv (FB l)
  siz : Ints.Own b0 w sv ms
  x0 : D 11 = false → w.heap[X]? = some (.cells #[kv, nv, fv, dv] 26 (0, 0))
  old : D 9 = false → DOwn b0 w dv vs ls
  a2 : D 2 = true → D 7 = false → Own W.heap.size w (xs 2) []
  a7 : D 7 = true → D 9 = false → Own W.heap.size w (xs 7) b
  a8 : D 8 = true → D 9 = false → Sv.Bts w (xs 8) [xs 7]
  a9 : D 9 = true → DOwn b0 w (xs 9) (vs ++ [xs 7]) (ls ++ [b])
  a11 : D 11 = true → w.heap[X]? = some (.cells #[kv, nv, fv, xs 9] 26 (0, 0))
section
variable {b0 X : Nat} {kv nv fv dv : Value} {l : List Bool} {vs : List Value} {ls : List (List Nat)} {b : List Nat} {sv : Value} {ms : List Int} {W w w' : World} {D : Nat → Bool} {xs : Nat → Value} {u : Value}
theorem C7R.first (xs : Nat → Value) (h1 : b0 ≤ W.heap.size) (h2 : Bo.Own b0 W fv (FB l)) (hs : Ints.Own b0 W sv ms) (hX : b0 ≤ X) (h3 : W.heap[X]? = some (.cells #[kv, nv, fv, dv] 26 (0, 0))) (h4 : DOwn b0 W dv vs ls) : C7R b0 X kv nv fv dv l vs ls b sv ms W (fun _ => false) xs W.drew := by
  have hb : Below W.heap.size W W.drew := (Below.refl _ _).go1
  exact ⟨(Below.refl _ _).go1, h1, hX, fun i hi g hg => ((h4.each i hi).own.lt g hg).2, h2.below hb, hs.below hb, fun _ => h3, fun _ => h4.below hb, fun h => (by cases h), fun h => (by cases h), fun h => (by cases h), fun h => (by cases h), fun h => (by cases h)⟩
theorem C7R.skip (h : C7R b0 X kv nv fv dv l vs ls b sv ms W D xs w) (j : Nat) (hj : (j != 2 && j != 7 && j != 8 && j != 9 && j != 11) = true) : C7R b0 X kv nv fv dv l vs ls b sv ms W (Ord.wth D j) (Ord.set xs j u) w := by
  simp only [Bool.and_eq_true, bne_iff_ne] at hj
  obtain ⟨⟨⟨⟨n2, n7⟩, n8⟩, n9⟩, n11⟩ := hj
  refine ⟨h.bel, h.big, h.xb, h.lt, h.full, h.siz, ?_, ?_, ?_, ?_, ?_, ?_, ?_⟩
  · rw [wth_ne _ (Ne.symm n11)]; exact h.x0
  · rw [wth_ne _ (Ne.symm n9)]; exact h.old
  · rw [wth_ne _ (Ne.symm n2), wth_ne _ (Ne.symm n7), oset_ne _ _ (Ne.symm n2)]; exact h.a2
  · rw [wth_ne _ (Ne.symm n7), wth_ne _ (Ne.symm n9), oset_ne _ _ (Ne.symm n7)]; exact h.a7
  · rw [wth_ne _ (Ne.symm n8), wth_ne _ (Ne.symm n9), oset_ne _ _ (Ne.symm n8), oset_ne _ _ (Ne.symm n7)]; exact h.a8
  · rw [wth_ne _ (Ne.symm n9), oset_ne _ _ (Ne.symm n9), oset_ne _ _ (Ne.symm n7)]; exact h.a9
  · rw [wth_ne _ (Ne.symm n11), oset_ne _ _ (Ne.symm n9)]; exact h.a11
theorem C7R.op2 (h : C7R b0 X kv nv fv dv l vs ls b sv ms W D xs w) (hu : u = .slice (some ⟨w.heap.size, 0, none⟩) 0 0) : C7R b0 X kv nv fv dv l vs ls b sv ms W (Ord.wth D 2) (Ord.set xs 2 u) (w.alloc (.cells #[] 5)) := by
  have hb := below_new w (.cells #[] 5)
  have hs := Nat.le_trans h.big h.bel.size
  refine ⟨h.bel.trans (hb.mono hs), h.big, h.xb, h.lt, h.full.below hb, h.siz.below hb, ?_, ?_, ?_, ?_, ?_, ?_, ?_⟩
  · rw [wth_ne _ (by decide)]; exact fun a => by rw [hb.block _ (lt_of_block (h.x0 a))]; exact h.x0 a
  · rw [wth_ne _ (by decide)]; exact fun a => (h.old a).below hb
  · rw [oset_self, hu]; exact fun _ _ => own_empty w W.heap.size 0 #[] h.bel.size (by decide) rfl
  · rw [wth_ne _ (by decide), wth_ne _ (by decide), oset_ne _ _ (by decide)]; exact fun a c => (h.a7 a c).below hb
  · rw [wth_ne _ (by decide), wth_ne _ (by decide), oset_ne _ _ (by decide), oset_ne _ _ (by decide)]; exact fun a c => (h.a8 a c).below hb
  · rw [wth_ne _ (by decide), oset_ne _ _ (by decide), oset_ne _ _ (by decide)]; exact fun a => (h.a9 a).below hb
  · rw [wth_ne _ (by decide), oset_ne _ _ (by decide)]; exact fun a => by rw [hb.block _ (lt_of_block (h.a11 a))]; exact h.a11 a
theorem C7R.op7 (h : C7R b0 X kv nv fv dv l vs ls b sv ms W D xs w) (h2 : D 2 = true) (h7 : D 7 = false) (h8 : D 8 = false) (h9 : D 9 = false) (h11 : D 11 = false) (hO : Own W.heap.size w' u b) (hg : w.grownBy w' (xs 2).ownBlock) (hb : Below W.heap.size w w') : C7R b0 X kv nv fv dv l vs ls b sv ms W (Ord.wth D 7) (Ord.set xs 7 u) w' := by
  have hx := h.x0 h11
  have ho2 := h.a2 h2 h7
  refine ⟨h.bel.trans (hb.mono h.big), h.big, h.xb, h.lt, h.full.grown hg (apart_rows h.full.own ho2.own (by decide)), h.siz.grown hg (apart_rows h.siz.own ho2.own (by decide)), ?_, ?_, ?_, ?_, ?_, ?_, ?_⟩
  · intro _
    rw [hg.block _ (lt_of_block hx) (fun e2 => ?_)]
    · exact hx
    · rcases row_ne_blk ho2.own hx (by decide) with e3 | e3
      · rw [e3] at e2; cases e2
      · exact e3 e2.symm
  · intro _
    have hd := h.old h9
    refine hd.grown hg (apart_rows hd.own.own ho2.own (by decide)) fun i hi => ?_
    cases e : (vs.getD i nilS).ownBlock with
    | none => exact Or.inl rfl
    | some g =>
      refine Or.inr fun e2 => ?_
      have h1 := h.lt i hi g e
      have h3 := (ho2.own.lt g e2.symm).1
      omega
  · rw [wth_self]; intro _ a; cases a
  · rw [oset_self]; exact fun _ _ => hO
  · rw [wth_ne _ (by decide), h8]; intro a; cases a
  · rw [wth_ne _ (by decide), h9]; intro a; cases a
  · rw [wth_ne _ (by decide), h11]; intro a; cases a
theorem C7R.op8 (h : C7R b0 X kv nv fv dv l vs ls b sv ms W D xs w) (h7 : D 7 = true) (h9 : D 9 = false) (hu : u = .slice (some ⟨w.heap.size, 0, none⟩) 1 1) : C7R b0 X kv nv fv dv l vs ls b sv ms W (Ord.wth D 8) (Ord.set xs 8 u) (w.alloc (.cells #[xs 7] 30)) := by
  have hb := below_new w (.cells #[xs 7] 30)
  have hs := Nat.le_trans h.big h.bel.size
  have h8o := h.a7 h7 h9
  have hone : Sv.Okk (xs 7) := by
    obtain ⟨p, c, e, -⟩ := h8o.bts.form
    rw [e]; rfl
  refine ⟨h.bel.trans (hb.mono hs), h.big, h.xb, h.lt, h.full.below hb, h.siz.below hb, ?_, ?_, ?_, ?_, ?_, ?_, ?_⟩
  · rw [wth_ne _ (by decide)]; exact fun a => by rw [hb.block _ (lt_of_block (h.x0 a))]; exact h.x0 a
  · rw [wth_ne _ (by decide)]; exact fun a => (h.old a).below hb
  · rw [wth_ne _ (by decide), wth_ne _ (by decide), oset_ne _ _ (by decide)]; exact fun a c => (h.a2 a c).below hb
  · rw [wth_ne _ (by decide), wth_ne _ (by decide), oset_ne _ _ (by decide)]; exact fun a c => (h.a7 a c).below hb
  · rw [oset_self, oset_ne _ _ (by decide), hu]
    exact fun _ _ => Sv.bts_alloc w [xs 7] 1 (by simp) 30 (0, 0) (by simpa using hone) (by simp)
  · rw [wth_ne _ (by decide), oset_ne _ _ (by decide), oset_ne _ _ (by decide)]; exact fun a => (h.a9 a).below hb
  · rw [wth_ne _ (by decide), oset_ne _ _ (by decide)]; exact fun a => by rw [hb.block _ (lt_of_block (h.a11 a))]; exact h.a11 a
theorem C7R.op9 (h : C7R b0 X kv nv fv dv l vs ls b sv ms W D xs w) (h7 : D 7 = true) (h9 : D 9 = false) (h11 : D 11 = false) (hO : Sv.Own b0 w' u (vs ++ [xs 7])) (hg : w.grownBy w' dv.ownBlock) (hb : Below b0 w w') : C7R b0 X kv nv fv dv l vs ls b sv ms W (Ord.wth D 9) (Ord.set xs 9 u) w' := by
  have hx := h.x0 h11
  have hd := h.old h9
  refine ⟨h.bel.trans hb, h.big, h.xb, h.lt, h.full.grown hg (apart_rows h.full.own hd.own.own (by decide)), h.siz.grown hg (apart_rows h.siz.own hd.own.own (by decide)), ?_, ?_, ?_, ?_, ?_, ?_, ?_⟩
  · intro _
    rw [hg.block _ (lt_of_block hx) (fun e2 => ?_)]
    · exact hx
    · rcases row_ne_blk hd.own.own hx (by decide) with e3 | e3
      · rw [e3] at e2; cases e2
      · exact e3 e2.symm
  · rw [wth_self]; intro a; cases a
  · rw [wth_ne _ (by decide), wth_ne _ (by decide), h7]; intro _ a; cases a
  · rw [wth_self]; intro _ a; cases a
  · rw [wth_self]; intro _ a; cases a
  · rw [oset_self, oset_ne _ _ (by decide)]; exact fun _ => hd.snoc ((h.a7 h7 h9).from h.big) hO hg
  · rw [wth_ne _ (by decide), h11]; intro a; cases a
theorem C7R.op11 (h : C7R b0 X kv nv fv dv l vs ls b sv ms W D xs w) (h7 : D 7 = true) (h9 : D 9 = true) (h11 : D 11 = false) : C7R b0 X kv nv fv dv l vs ls b sv ms W (Ord.wth D 11) (Ord.set xs 11 u) (w.setCell ⟨X, 3, none⟩ (xs 9)) := by
  have hx := h.x0 h11
  have hg := grownBy_setCell w X 3 (xs 9)
  refine ⟨below_grown h.bel hg (Nat.le_trans h.big h.bel.size) h.xb, h.big, h.xb, h.lt, h.full.grown hg (row_ne_blk h.full.own hx (by decide)), h.siz.grown hg (row_ne_blk h.siz.own hx (by decide)), ?_, ?_, ?_, ?_, ?_, ?_, ?_⟩
  · rw [wth_self]; intro a; cases a
  · rw [wth_ne _ (by decide), h9]; intro a; cases a
  · rw [wth_ne _ (by decide), wth_ne _ (by decide), h7]; intro _ a; cases a
  · rw [wth_ne _ (by decide), wth_ne _ (by decide), h9]; intro _ a; cases a
  · rw [wth_ne _ (by decide), wth_ne _ (by decide), h9]; intro _ a; cases a
  · rw [wth_ne _ (by decide), oset_ne _ _ (by decide), oset_ne _ _ (by decide)]; exact fun a => (h.a9 a).blk hx hg
  · rw [oset_ne _ _ (by decide)]; exact fun _ => (set4 hx).2
end
end Go.Proofs.Ytbfpmpomcaijcaa
