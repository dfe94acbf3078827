/- What stands while the document's Read appends a component: the reader, the record's cells, the row. Conditions: none. -/
import Derived.Test.YtpliogkcfhcfpaaItemRead
import Derived.Test.YtpliogkcfhcfpaaCodeRRd
import Derived.Test.YtpliogkcfhcfpaaI32App
import Derived.Test.YtpliogkcfhcfpaaOrd
namespace Go.Proofs.Ytpliogkcfhcfpaa
open Go.RowKit

/-- Where the blocks lie. -/
structure RlS (lowb base B X R : Nat) (lo : Nat → Prop) : Prop where
  xb : X ≠ B
  bb : B < base
  xx : X < base
  nx : ¬ lo X
  rb : R ≠ B
  rx : R ≠ X
  rr : R < base
  lb : lowb ≤ B
  lx : lowb ≤ X
  ll : lowb ≤ base
  lo1 : ∀ b, lo b → b < lowb

structure RlR (w0 : World) (lowb base B X R k : Nat) (vv : Value) (acc : List Int) (z : Int) (lo : Nat → Prop) (l : List Nat) (e : Nat) (l' : List Nat) (e' : Nat) (o : Obj) (D : Nat → Bool) (xs : Nat → Value) (w : World) : Prop where
  bel : Below lowb w0 w
  row : D 8 = false → w.heap[X]? = some (.cells #[.int .u64 (k : Int), vv, .slice none 0 0] 26 (0, 0))
  rd0 : D 2 = false → Rd 59 lo w B l e
  rd1 : D 2 = true → D 8 = false → Rd 59 lo w B l' e'
  own : D 6 = false → I32.Own base w vv acc
  one : D 5 = true → D 6 = false → I32.Bts w (xs 5) [z]
  own2 : D 6 = true → I32.Own base w (xs 6) (acc ++ [z])
  big : base ≤ w.heap.size
  res : w.heap[R]? = some o
  fin : D 8 = true → ∃ u, w.heap[X]? = some (.cells #[.int .u64 (k : Int), u, .slice none 0 0] 26 (0, 0)) ∧ I32.Own base w u (acc ++ [z]) ∧ Rd 59 lo w B l' e'

theorem wth_self2 (D : Nat → Bool) (j : Nat) : Ord.wth D j j = true := if_pos rfl

section
variable {w0 : World} {lowb base B X R k : Nat} {vv : Value} {acc : List Int} {z : Int} {lo : Nat → Prop} {l : List Nat} {e : Nat} {l' : List Nat} {e' : Nat} {o : Obj} {D : Nat → Bool} {xs : Nat → Value} {w w' : World} {u : Value}

theorem RlR.start (hrow : w0.heap[X]? = some (.cells #[.int .u64 (k : Int), vv, .slice none 0 0] 26 (0, 0))) (hrd : Rd 59 lo w0 B l e) (hown : I32.Own base w0 vv acc) (hbig : base ≤ w0.heap.size) (hres : w0.heap[R]? = some o) :
    RlR w0 lowb base B X R k vv acc z lo l e l' e' o (fun _ => false) xs w0.drew where
  bel := (Below.refl _ _).go1
  row := fun _ => hrow
  rd0 := fun _ => hrd.below (Below.refl _ _).go1
  rd1 := fun h => by cases h
  own := fun _ => hown.below (Below.refl _ _).go1
  one := fun h => by cases h
  own2 := fun h => by cases h
  big := hbig
  res := hres
  fin := fun h => by cases h

theorem RlR.skip (h : RlR w0 lowb base B X R k vv acc z lo l e l' e' o D xs w) (j : Nat) (hj : (j != 2 && j != 5 && j != 6 && j != 8) = true) : RlR w0 lowb base B X R k vv acc z lo l e l' e' o (Ord.wth D j) (Ord.set xs j u) w := by
  simp only [Bool.and_eq_true, bne_iff_ne] at hj
  obtain ⟨⟨⟨n2, n5⟩, n6⟩, n8⟩ := hj
  have g : ∀ i, j ≠ i → Ord.wth D j i = D i ∧ Ord.set xs j u i = xs i := fun i hi => by
    unfold Ord.wth Ord.set
    exact ⟨if_neg (Ne.symm hi), if_neg (Ne.symm hi)⟩
  constructor
  · exact h.bel
  · rw [(g 8 n8).1]; exact h.row
  · rw [(g 2 n2).1]; exact h.rd0
  · rw [(g 2 n2).1, (g 8 n8).1]; exact h.rd1
  · rw [(g 6 n6).1]; exact h.own
  · rw [(g 5 n5).1, (g 6 n6).1, (g 5 n5).2]; exact h.one
  · rw [(g 6 n6).1, (g 6 n6).2]; exact h.own2
  · exact h.big
  · exact h.res
  · rw [(g 8 n8).1]; exact h.fin

theorem own_not {base w g} {v : Value} {l : List Int} (h : I32.Own base w v l) (hg : g < base) : v.ownBlock = none ∨ v.ownBlock ≠ some g :=
  Or.inr fun e => by have := (h.own.lt g e).1; omega

theorem RlR.op2 (h : RlR w0 lowb base B X R k vv acc z lo l e l' e' o D xs w) (S : RlS lowb base B X R lo) (h5 : D 5 = false) (h6 : D 6 = false) (h8 : D 8 = false) (hR : Rd 59 lo w' B l' e') (hg : w.grownBy w' (some B)) :
    RlR w0 lowb base B X R k vv acc z lo l e l' e' o (Ord.wth D 2) (Ord.set xs 2 u) w' where
  bel := below_grown h.bel hg (Nat.le_trans S.ll h.big) S.lb
  row := fun _ => row3_grown (h.row h8) hg (fun e => S.xb (Option.some.inj e))
  rd0 := fun a => by rw [wth_self2] at a; cases a
  rd1 := fun _ _ => hR
  own := fun _ => (h.own h6).grown hg (own_not (h.own h6) S.bb)
  one := fun (a : D 5 = true) => by rw [h5] at a; cases a
  own2 := fun (a : D 6 = true) => by rw [h6] at a; cases a
  big := Nat.le_trans h.big hg.size
  res := row3_grown h.res hg (fun e => S.rb (Option.some.inj e))
  fin := fun (a : D 8 = true) => by rw [h8] at a; cases a

theorem RlR.op5 (h : RlR w0 lowb base B X R k vv acc z lo l e l' e' o D xs w) (S : RlS lowb base B X R lo) (h2 : D 2 = true) (h6 : D 6 = false) (h8 : D 8 = false) (hb : Below w.heap.size w w') (hu : I32.Bts w' u [z]) :
    RlR w0 lowb base B X R k vv acc z lo l e l' e' o (Ord.wth D 5) (Ord.set xs 5 u) w' where
  bel := h.bel.trans (hb.mono (Nat.le_trans S.ll h.big))
  row := fun _ => row3_below (h.row h8) hb
  rd0 := fun (a : D 2 = false) => by rw [h2] at a; cases a
  rd1 := fun _ _ => (h.rd1 h2 h8).below hb
  own := fun _ => (h.own h6).below hb
  one := fun _ _ => hu
  own2 := fun (a : D 6 = true) => by rw [h6] at a; cases a
  big := Nat.le_trans h.big hb.size
  res := row3_below h.res hb
  fin := fun (a : D 8 = true) => by rw [h8] at a; cases a

theorem RlR.op6 (h : RlR w0 lowb base B X R k vv acc z lo l e l' e' o D xs w) (S : RlS lowb base B X R lo) (h2 : D 2 = true) (h6 : D 6 = false) (h8 : D 8 = false) (hb : Below base w w') (hg : w.grownBy w' vv.ownBlock) (hu : I32.Own base w' u (acc ++ [z])) :
    RlR w0 lowb base B X R k vv acc z lo l e l' e' o (Ord.wth D 6) (Ord.set xs 6 u) w' where
  bel := h.bel.trans (hb.mono S.ll)
  row := fun _ => by rw [hb.block X S.xx]; exact h.row h8
  rd0 := fun (a : D 2 = false) => by rw [h2] at a; cases a
  rd1 := fun _ _ => (h.rd1 h2 h8).grown hg (fun g hgg => by
    have h1 := ((h.own h6).own.lt g hgg).1
    have h2 := S.bb
    have h3 := S.ll
    exact ⟨fun hh => by have := S.lo1 g hh; omega, by omega⟩)
  own := fun a => by rw [wth_self2] at a; cases a
  one := fun _ a => by rw [wth_self2] at a; cases a
  own2 := fun _ => hu
  big := Nat.le_trans h.big hb.size
  res := by rw [hb.block R S.rr]; exact h.res
  fin := fun (a : D 8 = true) => by rw [h8] at a; cases a

theorem RlR.op8 (h : RlR w0 lowb base B X R k vv acc z lo l e l' e' o D xs w) (S : RlS lowb base B X R lo) (h2 : D 2 = true) (h6 : D 6 = true) (h8 : D 8 = false) :
    RlR w0 lowb base B X R k vv acc z lo l e l' e' o (Ord.wth D 8) (Ord.set xs 8 u) (w.setCell ⟨X, 1, none⟩ (xs 6)) where
  bel := below_grown h.bel (grownBy_setCell _ _ _ _) (Nat.le_trans S.ll h.big) S.lx
  row := fun a => by rw [wth_self2] at a; cases a
  rd0 := fun (a : D 2 = false) => by rw [h2] at a; cases a
  rd1 := fun _ a => by rw [wth_self2] at a; cases a
  own := fun (a : D 6 = false) => by rw [h6] at a; cases a
  one := fun _ (a : D 6 = false) => by rw [h6] at a; cases a
  own2 := fun _ => (h.own2 h6).grown (grownBy_setCell _ _ _ _) (own_not (h.own2 h6) S.xx)
  big := Nat.le_trans h.big (grownBy_setCell w X 1 (xs 6)).size
  res := row3_grown h.res (grownBy_setCell _ _ _ _) (fun e => S.rx (Option.some.inj e))
  fin := fun _ => ⟨xs 6, set3_1 (h.row h8), (h.own2 h6).grown (grownBy_setCell _ _ _ _) (own_not (h.own2 h6) S.xx),
    (h.rd1 h2 h8).grown (grownBy_setCell _ _ _ _) (fun g hg => by have := Option.some.inj hg; subst this; exact ⟨S.nx, S.xb⟩)⟩
end

/-- What the operations of its loop leave. -/
def RlF (X : Nat) (vv : Value) (mm : Nat) (z : Int) (i : Nat) (x : Value) (_ : World) : Prop :=
  match i with
  | 0 => x = .pointer (some ⟨X, 1, none⟩)
  | 1 => x = vv
  | 2 => x = .int .u64 (mm : Int)
  | 3 => x = .int .u32 (mm : Int)
  | 4 => x = .int .i32 z
  | 7 => x = .pointer (some ⟨X, 1, none⟩)
  | _ => True
end Go.Proofs.Ytpliogkcfhcfpaa
