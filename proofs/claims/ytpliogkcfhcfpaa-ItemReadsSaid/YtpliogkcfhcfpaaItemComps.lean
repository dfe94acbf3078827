/- A vector's components as pieces: what components answers. Conditions: the slice's cells hold the numbers; the room. -/
import Derived.Test.YtpliogkcfhcfpaaItemJoin
namespace Go.Proofs.Ytpliogkcfhcfpaa
open Go.RowKit

theorem infoSl : (Try.prog.info? 24).map (fun i => (i.zero, i.size, i.bytes)) = some (some (.slice none 0 0), 1, 24) := by kernel_rfl

theorem put32_nil (n : Nat) (w : World) :
    Calls Try.prog 44 #[.slice none 0 0, .int .u32 (n : Int)] w fun e w' => ∃ v', e = .returned v' ∧ Own w.heap.size w' v' (Cod.le 4 n) ∧ Below w.heap.size w w' :=
  Put32_any _ [] n w (own_nil 0 w).bts (by decide)

/-- So many pieces are there; the others are none yet. -/
structure Half (base : Nat) (w : World) (g n k : Nat) (f : Nat → List Nat) (xs : List Value) : Prop where
  own : w.ownsRow base 24 1 (.slice (some ⟨g, 0, none⟩) n n) n xs
  done : ∀ i, i < k → ∃ u, xs[i]? = some u ∧ Bts w u (f i) ∧ u.ownBlock ≠ some g

theorem Half.later {base : Nat} {w w' : World} {g n k : Nat} {f : Nat → List Nat} {xs : List Value} (h : Half base w g n k f xs) (hb : Below w.heap.size w w') : Half base w' g n k f xs := by
  refine ⟨h.own.kept (row := none) (grownBy_below hb none) (Or.inr (by simp [Value.ownBlock])), fun i hi => ?_⟩
  obtain ⟨u, h1, h2, h3⟩ := h.done i hi
  exact ⟨u, h1, h2.below hb, h3⟩

theorem Half.put {base : Nat} {w : World} {g n k : Nat} {f : Nat → List Nat} {xs : List Value} {u : Value} (h : Half base w g n k f xs) (hk : k < xs.length) (hu : Bts w u (f k)) (ho : u.ownBlock ≠ some g) :
    Half base (w.setCell ⟨g, k, none⟩ u) g n (k + 1) f (xs.set k u) ∧ w.grownBy (w.setCell ⟨g, k, none⟩ u) (some g) := by
  obtain ⟨h1, h2⟩ := h.own.stored k u
  refine ⟨⟨h1, fun i hi => ?_⟩, h2⟩
  by_cases hik : i < k
  · obtain ⟨u', e1, e2, e3⟩ := h.done i hik
    refine ⟨u', ?_, e2.grown h2 (fun _ => e3), e3⟩
    rw [List.getElem?_set_ne (by omega)]
    exact e1
  · obtain rfl : i = k := by omega
    refine ⟨u, ?_, hu.grown h2 (fun _ => ho), ho⟩
    rw [List.getElem?_set_self hk]

theorem Half.cell {base : Nat} {w : World} {g n k : Nat} {f : Nat → List Nat} {xs : List Value} (h : Half base w g n k f xs) (hk : k < n) (hl : xs.length = n) : ∃ u, w.cell? ⟨g, k, none⟩ = some u ∧ w.frozen? ⟨g, k, none⟩ = false := by
  refine ⟨xs[k]'(by omega), ?_, h.own.frozenAt k⟩
  rw [h.own.cellAt k (by omega), List.getElem?_eq_getElem (by omega)]

theorem Half.pcs {base : Nat} {w : World} {g n : Nat} {ls : List (List Nat)} {f : Nat → List Nat} {xs : List Value} (h : Half base w g n n f xs) (hn : ls.length = n) (hl : n ≤ 35184372088832) (hf : ∀ i, i < n → f i = ls.getD i []) : Pcs w (.slice (some ⟨g, 0, none⟩) n n) ls := by
  subst hn
  refine ⟨⟨_, _, rfl, ⟨Nat.le_refl _, by omega⟩, fun _ => ⟨g, 0, rfl, fun i hi => ?_⟩⟩, hl⟩
  obtain ⟨u, h1, h2, -⟩ := h.done i hi
  rw [hf i hi] at h2
  exact ⟨u, by rw [Nat.zero_add, h.own.cellAt i (by omega)]; exact h1, h2⟩

theorem u32_cast (x : Int) : x % 4294967296 = (Itm.u32 x : Int) := by unfold Itm.u32; omega

set_option maxHeartbeats 1600000 in
set_option maxRecDepth 20000 in
theorem components_any (v : Value) (l : List Int) (w : World) (hB : I32.Bts w v l) (hl : l.length ≤ 8796093022208) :
    Calls Try.prog 24 #[v] w fun e w' => ∃ v', e = .returned v' ∧ Pcs w' v' (l.map fun c => Cod.le 4 (Itm.u32 c)) ∧ Below w.heap.size w w' := by
  have HB := Lib.hid hB
  obtain ⟨p, cap, rfl, hr, -, hp⟩ := hB.form
  have HP := Lib.hid hp
  clear hp hB hr
  go_enter Try.func24, Try.ntmps24
  go_upto_region 1 with (fail)
  iterate 7 go_step
  obtain ⟨i0, hi, hz0, hz1, hz2⟩ := info_parts infoSl
  refine wpList_make_full w rfl (.tmp 7) (.tmp 7) 43 rfl w.heap.size 24 i0 (.slice none 0 0) 1 Try.underlying43 hi hz0 hz1 .i64 .i64 (l.length : Int) (l.length : Int) l.length rfl rfl rfl rfl (by rw [hz2]; omega) (by unfold maxLen; omega) (Nat.le_refl _) ?_
  intro w1 hown1 hg1
  have HW1 := Lib.hid (Below.grown (Below.refl w.heap.size w) hg1 (Nat.le_refl _) (fun k hk => by cases hk))
  have HXL : Hid (((madeCells (Value.slice none 0 0).cells (l.length * 1)).toList).length = l.length) := by
    show _ = _
    have := hown1.1
    omega
  have HH : Hid (Half w.heap.size w1 w.heap.size l.length 0 (fun i => Cod.le 4 (Itm.u32 (l.getD i 0))) (madeCells (Value.slice none 0 0).cells (l.length * 1)).toList) := ⟨hown1, fun i hi => absurd hi (Nat.not_lt_zero i)⟩
  generalize (madeCells (Value.slice none 0 0).cells (l.length * 1)).toList = xs0 at *
  clear hown1 hg1 i0 hi hz0 hz1 hz2
  obtain ⟨g, hg⟩ : ∃ g, g = w.heap.size := ⟨_, rfl⟩
  rw [← hg] at HH ⊢
  have HG := Lib.hid hg
  clear hg
  go_wp2_with fail
  go_loopw [11] (fun i wr => ∃ (k : Nat) (xs : List Value), k ≤ l.length ∧ i = .int .i64 k ∧ xs.length = l.length ∧ Half g wr g l.length k (fun i => Cod.le 4 (Itm.u32 (l.getD i 0))) xs ∧ Below g w wr) (fun i _ => l.length - (intOf i).toNat)
  case atStart => exact ⟨0, xs0, by omega, rfl, HXL.out, HH.out, by have := HW1.out; rw [HG.out]; exact this⟩
  case round =>
    obtain ⟨k, xs, hk, rfl, hxl, hh, hb⟩ := hrel
    have HX := Lib.hid hxl
    have HH := Lib.hid hh
    have HW := Lib.hid hb
    clear hxl hh hb HXL
    by_cases hlt : k < l.length
    · obtain ⟨b, off, rfl, hc⟩ := HP.out (by omega)
      have hck := hc k hlt
      have hbl := block_lt_of_cell hck
      have HCW := Lib.hid (HW.out.cell (p := ⟨b, off + k, none⟩) (by rw [HG.out]; exact hbl))
      have hck2 : ‹World›.cell? ⟨b, off + k, none⟩ = some (.int .i32 (l.getD k 0)) := HCW.out.trans hck
      have HU := Lib.hid (u32_cast (l.getD k 0))
      have HF : Hid ((fun i => Cod.le 4 (Itm.u32 (l.getD i 0))) k = Cod.le 4 (Itm.u32 (l.getD k 0))) := rfl
      generalize l.getD k 0 = x at hck2 HU HF
      have hu := HU.out
      clear hc hck hbl HCW
      generalize Itm.u32 x = m at *
      go_wp2_with fail
      refine (put32_nil m _).mono ?_
      rintro e w2 ⟨v2, rfl, hO2, hb2⟩
      have hgw : g < wr.heap.size := by
        have h1 := HH.out.own.lt g rfl
        exact h1.2
      obtain ⟨g2, N2, C2, rfl, h2lo, -⟩ : ∃ g2 N2 C2, v2 = .slice (some ⟨g2, 0, none⟩) N2 C2 ∧ wr.heap.size ≤ g2 ∧ True := by
        obtain ⟨g2, C2, e1, e2, -⟩ := own_some hO2 (by rw [Cod.le_length]; decide)
        exact ⟨g2, _, C2, e1, e2, trivial⟩
      have hh2 := HH.out.later hb2
      obtain ⟨u0, hcell, hfree⟩ := hh2.cell hlt HX.out
      obtain ⟨hput, hgrow⟩ := hh2.put (u := .slice (some ⟨g2, 0, none⟩) N2 C2) (by rw [HX.out]; exact hlt) (by rw [HF.out]; exact hO2.bts) (by
        intro e
        simp only [Value.ownBlock, Option.some.injEq] at e
        omega)
      have HPUT := Lib.hid hput
      have HWN := Lib.hid (below_grown (HW.out.trans (hb2.mono (by omega))) hgrow (by have := HW.out.size; have := hb2.size; omega) (Nat.le_refl _))
      clear hh2 hput hgrow hO2 hb2 hgw h2lo
      go_wp2
      go_roundw
      case rel => exact ⟨k + 1, _, by omega, by go_num, by rw [List.length_set]; exact HX.out, HPUT.out, HWN.out⟩
      case measure => simp [intOf]; omega
    · obtain rfl : k = l.length := by omega
      have HP2 := Lib.hid (HH.out.pcs (ls := l.map fun c => Cod.le 4 (Itm.u32 c)) (by simp) (by omega) (fun i hi => by simp [List.getElem?_eq_getElem hi]))
      go_wp2
      go_ret
      exact ⟨_, rfl, HP2.out, by rw [← HG.out]; exact HW.out⟩
end Go.Proofs.Ytpliogkcfhcfpaa
