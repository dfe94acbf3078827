/- A body of the call's own, a text of it written anew: what stands while operations float. Conditions: none. -/
import Derived.Test.YtbfpmpomcaijcaaSpTwin
import Derived.Test.YtbfpmpomcaijcaaSpRoom
import Derived.Test.YtbfpmpomcaijcaaSlFar
namespace Go.Proofs.Ytbfpmpomcaijcaa
open Go.RowKit

theorem slat_none' (w : World) : SlAt w nilS nilS Sl.none_ := ⟨(Bo.own_nil 0 w).bts, (down_nil 0 w).at, by decide, by decide⟩

/-- The body in P is turned into another, of the call's own. -/
theorem St.own {w W : World} {P R b0 : Nat} {s s' : Sl.S} {fv dv fv' dv' : Value} {vs' : List Value} (h : St w W P R s fv dv) (hne : P ≠ R) (hO : SlOwn b0 W fv' dv' vs' s') :
    St w ((((W.setCell ⟨P, 0, none⟩ (.int .u8 (s'.kind : Int))).setCell ⟨P, 1, none⟩ (.int .u32 (s'.next : Int))).setCell ⟨P, 2, none⟩ fv').setCell ⟨P, 3, none⟩ dv') P R s' fv' dv' ∧
    SlOwn b0 ((((W.setCell ⟨P, 0, none⟩ (.int .u8 (s'.kind : Int))).setCell ⟨P, 1, none⟩ (.int .u32 (s'.next : Int))).setCell ⟨P, 2, none⟩ fv').setCell ⟨P, 3, none⟩ dv') fv' dv' vs' s' ∧
    W.grownBy ((((W.setCell ⟨P, 0, none⟩ (.int .u8 (s'.kind : Int))).setCell ⟨P, 1, none⟩ (.int .u32 (s'.next : Int))).setCell ⟨P, 2, none⟩ fv').setCell ⟨P, 3, none⟩ dv') (some P) := by
  obtain ⟨h1, h2⟩ := set4all (x := .int .u8 (s'.kind : Int)) (y := .int .u32 (s'.next : Int)) (z := fv') (u := dv') h.par
  have hO2 := hO.blk h.par h2
  refine ⟨⟨h1, ?_, hO2.at, below_grown h.bel h2 h.bel.size h.p, h.p, h.r⟩, hO2, h2⟩
  rw [h2.block _ (lt_of_block h.ans) (fun e => hne (Option.some.inj e).symm)]
  exact h.ans

/-- Another body of the call's own stands in P's cells. -/
theorem St.turn {w W W' : World} {P R : Nat} {s s' : Sl.S} {fv dv : Value} (h : St w W P R s fv dv) (hk : s'.kind = s.kind) (hn : s'.next = s.next) (hP : W'.heap[P]? = W.heap[P]?) (hR : W'.heap[R]? = W.heap[R]?) (hA : SlAt W' fv dv s') (hb : Below w.heap.size w W') : St w W' P R s' fv dv := by
  refine ⟨?_, by rw [hR]; exact h.ans, hA, hb, h.p, h.r⟩
  rw [hP, hk, hn]; exact h.par

/-- A text is cloned (ci), a bool written (bi), the text put in its place (di). -/
structure PsR (ci bi di b0 at_ : Nat) (x : Bool) (gf nf cf g n c : Nat) (l : List Bool) (vs : List Value) (ls : List (List Nat)) (b : List Nat) (W : World) (D : Nat → Bool) (xs : Nat → Value) (w : World) : Prop where
  bel : Below b0 W w
  big : b0 ≤ W.heap.size
  never : bi = 99 → D bi = false
  hgf : b0 ≤ gf
  hgd : b0 ≤ g
  f0 : D bi = false → Bo.Own b0 w (.slice (some ⟨gf, 0, none⟩) nf cf) (FB l)
  f1 : D bi = true → Bo.Own b0 w (.slice (some ⟨gf, 0, none⟩) nf cf) (FB (l.set at_ x))
  old : D di = false → DOwn b0 w (.slice (some ⟨g, 0, none⟩) n c) vs ls
  cl : D ci = true → D di = false → Own b0 w (xs ci) b
  new : D di = true → DOwn b0 w (.slice (some ⟨g, 0, none⟩) n c) (vs.set at_ (xs ci)) (ls.set at_ b)
section
variable {ci bi di b0 at_ gf nf cf g n c : Nat} {x : Bool} {l : List Bool} {vs : List Value} {ls : List (List Nat)} {b : List Nat} {W w w' : World} {D : Nat → Bool} {xs : Nat → Value} {u : Value}
theorem PsR.first (xs : Nat → Value) (h1 : b0 ≤ W.heap.size) (hgf : b0 ≤ gf) (hgd : b0 ≤ g) (h2 : Bo.Own b0 W (.slice (some ⟨gf, 0, none⟩) nf cf) (FB l)) (h4 : DOwn b0 W (.slice (some ⟨g, 0, none⟩) n c) vs ls) : PsR ci bi di b0 at_ x gf nf cf g n c l vs ls b W (fun _ => false) xs W.drew := by
  have hb : Below W.heap.size W W.drew := (Below.refl _ _).go1
  exact ⟨(Below.refl _ _).go1, h1, fun _ => rfl, hgf, hgd, fun _ => h2.below hb, fun h => (by cases h), fun _ => h4.below hb, fun h => (by cases h), fun h => (by cases h)⟩
theorem PsR.skip (h : PsR ci bi di b0 at_ x gf nf cf g n c l vs ls b W D xs w) (j : Nat) (hj : (j != ci && j != bi && j != di) = true) : PsR ci bi di b0 at_ x gf nf cf g n c l vs ls b W (Ord.wth D j) (Ord.set xs j u) w := by
  simp only [Bool.and_eq_true, bne_iff_ne] at hj
  obtain ⟨⟨n1, n2⟩, n3⟩ := hj
  refine ⟨h.bel, h.big, ?_, h.hgf, h.hgd, ?_, ?_, ?_, ?_, ?_⟩
  · rw [wth_ne _ (Ne.symm n2)]; exact h.never
  · rw [wth_ne _ (Ne.symm n2)]; exact h.f0
  · rw [wth_ne _ (Ne.symm n2)]; exact h.f1
  · rw [wth_ne _ (Ne.symm n3)]; exact h.old
  · rw [wth_ne _ (Ne.symm n1), wth_ne _ (Ne.symm n3), oset_ne _ _ (Ne.symm n1)]; exact h.cl
  · rw [wth_ne _ (Ne.symm n3), oset_ne _ _ (Ne.symm n1)]; exact h.new
theorem PsR.call (h : PsR ci bi di b0 at_ x gf nf cf g n c l vs ls b W D xs w) (h12 : (ci != bi && ci != di) = true) (h3 : D di = false) (hO : Own w.heap.size w' u b) (hb : Below w.heap.size w w') : PsR ci bi di b0 at_ x gf nf cf g n c l vs ls b W (Ord.wth D ci) (Ord.set xs ci u) w' := by
  simp only [Bool.and_eq_true, bne_iff_ne] at h12
  obtain ⟨n1, n2⟩ := h12
  have hsz := Nat.le_trans h.big h.bel.size
  refine ⟨h.bel.trans (hb.mono hsz), h.big, ?_, h.hgf, h.hgd, ?_, ?_, ?_, ?_, ?_⟩
  · rw [wth_ne _ (Ne.symm n1)]; exact h.never
  · rw [wth_ne _ (Ne.symm n1)]; exact fun a => (h.f0 a).below hb
  · rw [wth_ne _ (Ne.symm n1)]; exact fun a => (h.f1 a).below hb
  · rw [wth_ne _ (Ne.symm n2)]; exact fun a => (h.old a).below hb
  · rw [oset_self]; exact fun _ _ => hO.from hsz
  · rw [wth_ne _ (Ne.symm n2), h3]; intro a; cases a
theorem PsR.flag (h : PsR ci bi di b0 at_ x gf nf cf g n c l vs ls b W D xs w) (h12 : (bi != ci && bi != di && bi != 99) = true) (hD : D bi = false) : PsR ci bi di b0 at_ x gf nf cf g n c l vs ls b W (Ord.wth D bi) (Ord.set xs bi u) (w.setCell ⟨gf, at_, none⟩ (.bool x)) := by
  simp only [Bool.and_eq_true, bne_iff_ne] at h12
  obtain ⟨⟨n1, n2⟩, n9⟩ := h12
  have hf := h.f0 hD
  obtain ⟨hs, hg⟩ := hf.set at_ x
  refine ⟨below_grown h.bel hg (Nat.le_trans h.big h.bel.size) h.hgf, h.big, fun e => absurd e n9, h.hgf, h.hgd, ?_, ?_, ?_, ?_, ?_⟩
  · rw [wth_self]; intro a; cases a
  · exact fun _ => hs
  · rw [wth_ne _ (Ne.symm n2)]
    exact fun a => (h.old a).grown hg (apart_rows (v := .slice (some ⟨gf, 0, none⟩) nf cf) (h.old a).own.own hf.own (by decide)) (fun i hi => apart_rows (v := .slice (some ⟨gf, 0, none⟩) nf cf) ((h.old a).each i hi).own hf.own (by decide))
  · rw [wth_ne _ (Ne.symm n1), wth_ne _ (Ne.symm n2), oset_ne _ _ (Ne.symm n1)]
    exact fun a b => (h.cl a b).grown hg (apart_rows (v := .slice (some ⟨gf, 0, none⟩) nf cf) (h.cl a b).own hf.own (by decide))
  · rw [wth_ne _ (Ne.symm n2), oset_ne _ _ (Ne.symm n1)]
    exact fun a => (h.new a).grown hg (apart_rows (v := .slice (some ⟨gf, 0, none⟩) nf cf) (h.new a).own.own hf.own (by decide)) (fun i hi => apart_rows (v := .slice (some ⟨gf, 0, none⟩) nf cf) ((h.new a).each i hi).own hf.own (by decide))
theorem PsR.text (h : PsR ci bi di b0 at_ x gf nf cf g n c l vs ls b W D xs w) (h12 : (di != ci && di != bi) = true) (hC : D ci = true) (hD : D di = false) : PsR ci bi di b0 at_ x gf nf cf g n c l vs ls b W (Ord.wth D di) (Ord.set xs di u) (w.setCell ⟨g, at_, none⟩ (xs ci)) := by
  simp only [Bool.and_eq_true, bne_iff_ne] at h12
  obtain ⟨n1, n2⟩ := h12
  have hd := h.old hD
  have hg := grownBy_setCell w g at_ (xs ci)
  refine ⟨below_grown h.bel hg (Nat.le_trans h.big h.bel.size) h.hgd, h.big, ?_, h.hgf, h.hgd, ?_, ?_, ?_, ?_, ?_⟩
  · rw [wth_ne _ (Ne.symm n2)]; exact h.never
  · rw [wth_ne _ (Ne.symm n2)]; exact fun a => (h.f0 a).grown hg (apart_rows (v := .slice (some ⟨g, 0, none⟩) n c) (h.f0 a).own hd.own.own (by decide))
  · rw [wth_ne _ (Ne.symm n2)]; exact fun a => (h.f1 a).grown hg (apart_rows (v := .slice (some ⟨g, 0, none⟩) n c) (h.f1 a).own hd.own.own (by decide))
  · rw [wth_self]; intro a; cases a
  · rw [wth_self]; intro _ a; cases a
  · rw [oset_ne _ _ (Ne.symm n1)]; exact fun _ => hd.set at_ (h.cl hC hD)
end
end Go.Proofs.Ytbfpmpomcaijcaa
