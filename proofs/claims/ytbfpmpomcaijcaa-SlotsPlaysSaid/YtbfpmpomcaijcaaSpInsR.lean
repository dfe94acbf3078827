/- A slot more behind all, in a body of the call's own: what stands while operations float; the first slot that has nothing. Conditions: none. -/
import Derived.Test.YtbfpmpomcaijcaaSpPutR
import Derived.Laws.OwnMore
namespace Go.Proofs.Ytbfpmpomcaijcaa
open Go.RowKit

namespace Sl
/-- The first slot that has nothing, or -1. -/
def idx (l : List Bool) : Int := if free l = l.length then -1 else (free l : Int)
theorem idx_none {l : List Bool} (h : free l = l.length) : idx l = -1 := if_pos h
theorem idx_some {l : List Bool} (h : free l ≠ l.length) : idx l = (free l : Int) := if_neg h
theorem May.inss {s : S} (hs : May s) (b : List Nat) : May (ins s b) ↔ took (ins s b) ≤ 500 := by
  refine ⟨fun h => h.fit, fun h => ?_⟩
  have hl := ins_len hs b
  have hmost : (ins s b).full.length ≤ 247 := by unfold took at h; omega
  refine ⟨hl.1, hmost, ?_, ?_, h⟩
  · intro h0
    unfold ins fa
    split
    · simp [List.getD_eq_getElem?_getD]
    · next hne =>
      have hlt : free s.full < s.full.length := by have := free_le s.full; omega
      simp only [List.length_set]
      by_cases e : free s.full = s.full.length - 1
      · rw [← e]; exact getD_set_self _ _ hlt
      · rw [getD_set_ne _ _ _ e]; exact hs.last (by omega)
  · intro i hi hf
    revert hi hf
    unfold ins fa da
    split
    · next he =>
      intro hi hf
      simp only [List.length_append, List.length_singleton] at hi
      by_cases e : i < s.full.length
      · have e1 : (s.full ++ [true]).getD i false = s.full.getD i false := by simp only [List.getD_eq_getElem?_getD]; rw [List.getElem?_append_left e]
        have e2 : (s.data ++ [b]).getD i [] = s.data.getD i [] := by simp only [List.getD_eq_getElem?_getD]; rw [List.getElem?_append_left (by rw [← hs.len]; exact e)]
        simp only [] at hf ⊢
        rw [e1] at hf
        rw [e2]
        exact hs.none i e hf
      · obtain rfl : i = s.full.length := by omega
        simp [List.getD_eq_getElem?_getD] at hf
    · next he =>
      intro hi hf
      simp only [List.length_set] at hi
      have hlt : free s.full < s.full.length := by have := free_le s.full; omega
      by_cases e : free s.full = i
      · subst e
        simp only [] at hf
        rw [getD_set_self _ _ hlt] at hf; cases hf
      · simp only [] at hf ⊢
        rw [getD_set_ne _ _ _ e] at hf ⊢
        exact hs.none i hi hf
end Sl

set_option maxHeartbeats 1600000 in
set_option maxRecDepth 20000 in
theorem index_any (fv : Value) (l : List Bool) (w : World) (h : Bo.Bts w fv (FB l)) :
    Calls Try.prog 43 #[fv, .bool false] w fun e w' => e = .returned (.int .i64 (Sl.idx l)) ∧ w = w' := by
  have hlen := h.len
  rw [fb_length] at hlen
  obtain ⟨p, cap, h1, -, -, h4⟩ := h.form
  rw [fb_length] at h1 h4
  subst h1
  have HF := Lib.hid h4
  clear h h4
  obtain ⟨r, hr⟩ : ∃ r, r = Sl.idx l := ⟨_, rfl⟩
  rw [← hr]
  have HR := Lib.hid hr
  clear hr
  go_enter Try.func43, Try.ntmps43
  go_wp2_with fail
  go_loopw [8] (fun i wr => ∃ k : Nat, k ≤ l.length ∧ i = .int .i64 k ∧ (∀ j, j < k → l.getD j false = true) ∧ w = wr) (fun i _ => l.length - (intOf i).toNat)
  case atStart => exact ⟨0, Nat.zero_le _, rfl, fun j hj => absurd hj (Nat.not_lt_zero _), rfl⟩
  case round =>
    obtain ⟨k, hk, rfl, hn, rfl⟩ := hrel
    have HN := Lib.hid hn
    clear hn
    by_cases hlt : k < l.length
    · have HLT := Lib.hid hlt
      have hi : (k : Int) < (l.length : Int) := by omega
      obtain ⟨b, off, rfl, hc⟩ := HF.out (by omega)
      have hu := hc k hlt
      rw [fb_getD] at hu
      have hw5 := IntWalk.i64_in ((k : Int) + 1) (by omega)
      clear hc hlt
      cases hf : l.getD k false with
      | true =>
        have HN2 : Hid (∀ j, j < k + 1 → l.getD j false = true) := fun j hj => by
          by_cases e : j = k
          · rw [e]; exact hf
          · exact HN.out j (by omega)
        rw [hf] at hu
        clear hf
        go_wp2_with fail
        go_roundw
        case rel => exact ⟨k + 1, by have := HLT.out; omega, by go_num, HN2.out, by first | rfl | trivial⟩
        case measure => have := HLT.out; simp [intOf]; omega
      | false =>
        have HR2 : Hid (r = (k : Int)) := by
          show r = _
          have e := Sl.free_of HN.out (Nat.le_of_lt HLT.out) hf
          rw [HR.out, Sl.idx_some (by have := HLT.out; omega), e]
        rw [hf] at hu
        clear hf
        go_wp2_with fail
        go_ret
        exact ⟨by rw [HR2.out]; rfl, rfl⟩
    · obtain rfl : k = l.length := by omega
      have HR2 : Hid (r = -1) := by
        show r = _
        have e := Sl.free_of HN.out (Nat.le_refl _) (Sl.getD_out _ _ (Nat.le_refl _))
        rw [HR.out, Sl.idx_none e]
      go_wp2_with fail
      go_ret
      exact ⟨by rw [HR2.out]; rfl, rfl⟩

/-- A slot more behind all. -/
structure AnR (w0 : World) (base P R : Nat) (kv nv fv dv : Value) (l : List Bool) (vs : List Value) (ls : List (List Nat)) (D : Nat → Bool) (xs : Nat → Value) (w : World) : Prop where
  bel : Below w0.heap.size w0 w
  sz : base ≤ w.heap.size
  hb : w0.heap.size ≤ base
  hP : w0.heap.size ≤ P
  hne : P ≠ R
  blk : w.heap[P]? = some (.cells #[kv, nv, (if D 9 then xs 3 else fv), (if D 11 then xs 7 else dv)] 26 (0, 0))
  ans : w.heap[R]? = some (.cells #[.int .u8 0, .int .u32 0, nilS, nilS] 26 (0, 0))
  full0 : D 3 = false → Bo.Own base w fv (FB l)
  a2 : D 2 = true → D 3 = false → Bo.Own base w (xs 2) [.bool true]
  full1 : D 3 = true → Bo.Own base w (xs 3) (FB (l ++ [true]))
  data0 : D 7 = false → DOwn base w dv vs ls
  a6 : D 6 = true → D 7 = false → Sv.Own base w (xs 6) [nilS]
  data1 : D 7 = true → DOwn base w (xs 7) (vs ++ [nilS]) (ls ++ [[]])
section
variable {w0 : World} {base P R : Nat} {kv nv fv dv : Value} {l : List Bool} {vs : List Value} {ls : List (List Nat)} {D : Nat → Bool} {xs : Nat → Value} {W w w' : World} {u : Value}
theorem AnR.first (xs : Nat → Value) (h1 : Below w0.heap.size w0 W) (h2 : base ≤ W.heap.size) (h3 : w0.heap.size ≤ base) (h4 : w0.heap.size ≤ P) (h5 : P ≠ R) (h6 : W.heap[P]? = some (.cells #[kv, nv, fv, dv] 26 (0, 0))) (h7 : W.heap[R]? = some (.cells #[.int .u8 0, .int .u32 0, nilS, nilS] 26 (0, 0))) (h8 : Bo.Own base W fv (FB l)) (h9 : DOwn base W dv vs ls) : AnR w0 base P R kv nv fv dv l vs ls (fun _ => false) xs W.drew := by
  have hb : Below W.heap.size W W.drew := (Below.refl _ _).go1
  exact ⟨h1.go1, h2, h3, h4, h5, by rw [if_neg (by decide), if_neg (by decide)]; exact h6, h7, fun _ => h8.below hb, fun h => (by cases h), fun h => (by cases h), fun _ => h9.below hb, fun h => (by cases h), fun h => (by cases h)⟩
theorem AnR.skip (h : AnR w0 base P R kv nv fv dv l vs ls D xs w) (j : Nat) (hj : (j != 2 && j != 3 && j != 6 && j != 7 && j != 9 && j != 11) = true) : AnR w0 base P R kv nv fv dv l vs ls (Ord.wth D j) (Ord.set xs j u) w := by
  simp only [Bool.and_eq_true, bne_iff_ne] at hj
  obtain ⟨⟨⟨⟨⟨n2, n3⟩, n6⟩, n7⟩, n9⟩, n11⟩ := hj
  refine ⟨h.bel, h.sz, h.hb, h.hP, h.hne, ?_, h.ans, ?_, ?_, ?_, ?_, ?_, ?_⟩
  · rw [wth_ne _ (Ne.symm n9), wth_ne _ (Ne.symm n11), oset_ne _ _ (Ne.symm n3), oset_ne _ _ (Ne.symm n7)]; exact h.blk
  · rw [wth_ne _ (Ne.symm n3)]; exact h.full0
  · rw [wth_ne _ (Ne.symm n2), wth_ne _ (Ne.symm n3), oset_ne _ _ (Ne.symm n2)]; exact h.a2
  · rw [wth_ne _ (Ne.symm n3), oset_ne _ _ (Ne.symm n3)]; exact h.full1
  · rw [wth_ne _ (Ne.symm n7)]; exact h.data0
  · rw [wth_ne _ (Ne.symm n6), wth_ne _ (Ne.symm n7), oset_ne _ _ (Ne.symm n6)]; exact h.a6
  · rw [wth_ne _ (Ne.symm n7), oset_ne _ _ (Ne.symm n7)]; exact h.data1
theorem AnR.op2 (h : AnR w0 base P R kv nv fv dv l vs ls D xs w) (hu : u = .slice (some ⟨w.heap.size, 0, none⟩) 1 1) : AnR w0 base P R kv nv fv dv l vs ls (Ord.wth D 2) (Ord.set xs 2 u) (w.alloc (.cells #[.bool true] 4)) := by
  have hb := below_new w (.cells #[.bool true] 4)
  refine ⟨h.bel.trans (hb.mono h.bel.size), Nat.le_trans h.sz hb.size, h.hb, h.hP, h.hne, ?_, ?_, ?_, ?_, ?_, ?_, ?_, ?_⟩
  · rw [wth_ne _ (by decide), wth_ne _ (by decide), oset_ne _ _ (by decide), oset_ne _ _ (by decide), hb.block _ (lt_of_block h.blk)]; exact h.blk
  · rw [hb.block _ (lt_of_block h.ans)]; exact h.ans
  · rw [wth_ne _ (by decide)]; exact fun a => (h.full0 a).below hb
  · rw [oset_self, hu]
    exact fun _ _ => ⟨World.ownsRow_lit w #[.bool true] 1 h.sz (by unfold maxLen; omega) rfl, fun x hx => by rw [List.mem_singleton.1 hx]; rfl, by decide⟩
  · rw [wth_ne _ (by decide), oset_ne _ _ (by decide)]; exact fun a => (h.full1 a).below hb
  · rw [wth_ne _ (by decide)]; exact fun a => (h.data0 a).below hb
  · rw [wth_ne _ (by decide), wth_ne _ (by decide), oset_ne _ _ (by decide)]; exact fun a b => (h.a6 a b).below hb
  · rw [wth_ne _ (by decide), oset_ne _ _ (by decide)]; exact fun a => (h.data1 a).below hb
theorem AnR.op6 (h : AnR w0 base P R kv nv fv dv l vs ls D xs w) (hu : u = .slice (some ⟨w.heap.size, 0, none⟩) 1 1) : AnR w0 base P R kv nv fv dv l vs ls (Ord.wth D 6) (Ord.set xs 6 u) (w.alloc (.cells #[nilS] 30)) := by
  have hb := below_new w (.cells #[nilS] 30)
  refine ⟨h.bel.trans (hb.mono h.bel.size), Nat.le_trans h.sz hb.size, h.hb, h.hP, h.hne, ?_, ?_, ?_, ?_, ?_, ?_, ?_, ?_⟩
  · rw [wth_ne _ (by decide), wth_ne _ (by decide), oset_ne _ _ (by decide), oset_ne _ _ (by decide), hb.block _ (lt_of_block h.blk)]; exact h.blk
  · rw [hb.block _ (lt_of_block h.ans)]; exact h.ans
  · rw [wth_ne _ (by decide)]; exact fun a => (h.full0 a).below hb
  · rw [wth_ne _ (by decide), wth_ne _ (by decide), oset_ne _ _ (by decide)]; exact fun a b => (h.a2 a b).below hb
  · rw [wth_ne _ (by decide), oset_ne _ _ (by decide)]; exact fun a => (h.full1 a).below hb
  · rw [wth_ne _ (by decide)]; exact fun a => (h.data0 a).below hb
  · rw [oset_self, hu]
    exact fun _ _ => ⟨World.ownsRow_lit w #[nilS] 1 h.sz (by unfold maxLen; omega) rfl, fun x hx => by rw [List.mem_singleton.1 hx]; rfl, by decide⟩
  · rw [wth_ne _ (by decide), oset_ne _ _ (by decide)]; exact fun a => (h.data1 a).below hb
theorem ne_blk {w : World} {base n X s : Nat} {T T2 : TypeId} {v : Value} {xs : List Value} {arr : Array Value} {fr : Nat × Nat} (h : w.ownsRow base T s v n xs) (hx : w.heap[X]? = some (.cells arr T2 fr)) (hne : T ≠ T2) : some X ≠ v.ownBlock := by
  intro e
  rcases row_ne_blk h hx hne with h1 | h1
  · rw [h1] at e; cases e
  · exact h1 e.symm
theorem AnR.op3 (h : AnR w0 base P R kv nv fv dv l vs ls D xs w) (hD : D 3 = false) (h9 : D 9 = false) (hO : Bo.Own base w' u (FB l ++ [.bool true])) (hb : Below base w w') (hg : w.grownBy w' fv.ownBlock) : AnR w0 base P R kv nv fv dv l vs ls (Ord.wth D 3) (Ord.set xs 3 u) w' := by
  have hf := h.full0 hD
  refine ⟨h.bel.trans (hb.mono h.hb), Nat.le_trans h.sz hb.size, h.hb, h.hP, h.hne, ?_, ?_, ?_, ?_, ?_, ?_, ?_, ?_⟩
  · have hx := h.blk
    rw [wth_ne _ (by decide), wth_ne _ (by decide), h9, if_neg (by decide : ¬ false = true), oset_ne _ _ (by decide)]
    rw [h9, if_neg (by decide : ¬ false = true)] at hx
    rw [hg.block _ (lt_of_block hx) (ne_blk hf.own hx (by decide))]; exact hx
  · rw [hg.block _ (lt_of_block h.ans) (ne_blk hf.own h.ans (by decide))]; exact h.ans
  · rw [wth_self]; intro a; cases a
  · rw [wth_self]; intro _ a; cases a
  · rw [oset_self]
    have e : FB l ++ [.bool true] = FB (l ++ [true]) := by unfold FB; rw [List.map_append]; rfl
    rw [e] at hO
    exact fun _ => hO
  · rw [wth_ne _ (by decide)]; exact fun a => (h.data0 a).grown hg (apart_rows (h.data0 a).own.own hf.own (by decide)) (fun i hi => apart_rows ((h.data0 a).each i hi).own hf.own (by decide))
  · rw [wth_ne _ (by decide), wth_ne _ (by decide), oset_ne _ _ (by decide)]; exact fun a b => (h.a6 a b).grown hg (apart_rows (h.a6 a b).own hf.own (by decide))
  · rw [wth_ne _ (by decide), oset_ne _ _ (by decide)]; exact fun a => (h.data1 a).grown hg (apart_rows (h.data1 a).own.own hf.own (by decide)) (fun i hi => apart_rows ((h.data1 a).each i hi).own hf.own (by decide))
theorem AnR.op7 (h : AnR w0 base P R kv nv fv dv l vs ls D xs w) (hD : D 7 = false) (h11 : D 11 = false) (hO : Sv.Own base w' u (vs ++ [nilS])) (hb : Below base w w') (hg : w.grownBy w' dv.ownBlock) : AnR w0 base P R kv nv fv dv l vs ls (Ord.wth D 7) (Ord.set xs 7 u) w' := by
  have hf := h.data0 hD
  refine ⟨h.bel.trans (hb.mono h.hb), Nat.le_trans h.sz hb.size, h.hb, h.hP, h.hne, ?_, ?_, ?_, ?_, ?_, ?_, ?_, ?_⟩
  · have hx := h.blk
    rw [wth_ne _ (by decide), wth_ne _ (by decide), oset_ne _ _ (by decide), h11, if_neg (by decide : ¬ false = true)]
    rw [h11, if_neg (by decide : ¬ false = true)] at hx
    rw [hg.block _ (lt_of_block hx) (ne_blk hf.own.own hx (by decide))]; exact hx
  · rw [hg.block _ (lt_of_block h.ans) (ne_blk hf.own.own h.ans (by decide))]; exact h.ans
  · rw [wth_ne _ (by decide)]; exact fun a => (h.full0 a).grown hg (apart_rows (h.full0 a).own hf.own.own (by decide))
  · rw [wth_ne _ (by decide), wth_ne _ (by decide), oset_ne _ _ (by decide)]; exact fun a b => (h.a2 a b).grown hg (apart_rows (h.a2 a b).own hf.own.own (by decide))
  · rw [wth_ne _ (by decide), oset_ne _ _ (by decide)]; exact fun a => (h.full1 a).grown hg (apart_rows (h.full1 a).own hf.own.own (by decide))
  · rw [wth_self]; intro a; cases a
  · rw [wth_self]; intro _ a; cases a
  · rw [oset_self]; exact fun _ => hf.snoc (own_nil base w) hO hg
theorem AnR.op9 (h : AnR w0 base P R kv nv fv dv l vs ls D xs w) (h3 : D 3 = true) : AnR w0 base P R kv nv fv dv l vs ls (Ord.wth D 9) (Ord.set xs 9 u) (w.setCell ⟨P, 2, none⟩ (xs 3)) := by
  have hg := grownBy_setCell w P 2 (xs 3)
  refine ⟨below_grown h.bel hg h.bel.size h.hP, Nat.le_trans h.sz hg.size, h.hb, h.hP, h.hne, ?_, ?_, ?_, ?_, ?_, ?_, ?_, ?_⟩
  · rw [wth_self, wth_ne _ (by decide), oset_ne _ _ (by decide), oset_ne _ _ (by decide), if_pos rfl]; exact (set4 h.blk).1
  · rw [hg.block _ (lt_of_block h.ans) (fun e => h.hne (Option.some.inj e).symm)]; exact h.ans
  · rw [wth_ne _ (by decide), h3]; intro a; cases a
  · rw [wth_ne _ (by decide), wth_ne _ (by decide), h3]; intro _ a; cases a
  · rw [wth_ne _ (by decide), oset_ne _ _ (by decide)]; exact fun a => (h.full1 a).grown hg (row_ne_blk (h.full1 a).own h.blk (by decide))
  · rw [wth_ne _ (by decide)]; exact fun a => (h.data0 a).blk h.blk hg
  · rw [wth_ne _ (by decide), wth_ne _ (by decide), oset_ne _ _ (by decide)]; exact fun a b => (h.a6 a b).grown hg (row_ne_blk (h.a6 a b).own h.blk (by decide))
  · rw [wth_ne _ (by decide), oset_ne _ _ (by decide)]; exact fun a => (h.data1 a).blk h.blk hg
theorem AnR.op11 (h : AnR w0 base P R kv nv fv dv l vs ls D xs w) (h7 : D 7 = true) : AnR w0 base P R kv nv fv dv l vs ls (Ord.wth D 11) (Ord.set xs 11 u) (w.setCell ⟨P, 3, none⟩ (xs 7)) := by
  have hg := grownBy_setCell w P 3 (xs 7)
  refine ⟨below_grown h.bel hg h.bel.size h.hP, Nat.le_trans h.sz hg.size, h.hb, h.hP, h.hne, ?_, ?_, ?_, ?_, ?_, ?_, ?_, ?_⟩
  · rw [wth_self, wth_ne _ (by decide), oset_ne _ _ (by decide), oset_ne _ _ (by decide), if_pos rfl]; exact (set4 h.blk).2
  · rw [hg.block _ (lt_of_block h.ans) (fun e => h.hne (Option.some.inj e).symm)]; exact h.ans
  · rw [wth_ne _ (by decide)]; exact fun a => (h.full0 a).grown hg (row_ne_blk (h.full0 a).own h.blk (by decide))
  · rw [wth_ne _ (by decide), wth_ne _ (by decide), oset_ne _ _ (by decide)]; exact fun a b => (h.a2 a b).grown hg (row_ne_blk (h.a2 a b).own h.blk (by decide))
  · rw [wth_ne _ (by decide), oset_ne _ _ (by decide)]; exact fun a => (h.full1 a).grown hg (row_ne_blk (h.full1 a).own h.blk (by decide))
  · rw [wth_ne _ (by decide), h7]; intro a; cases a
  · rw [wth_ne _ (by decide), wth_ne _ (by decide), h7]; intro _ a; cases a
  · rw [wth_ne _ (by decide), oset_ne _ _ (by decide)]; exact fun a => (h.data1 a).blk h.blk hg
end
end Go.Proofs.Ytbfpmpomcaijcaa
