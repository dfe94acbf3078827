/- What the law QuantAll answers, for every list of floats and every scale. Conditions: the slice's cells hold the numbers. -/
import Derived.Test.YtemamkbcagnigaaQuantAllRef
namespace Go.Proofs.Ytemamkbcagnigaa
open Go.RowKit

theorem okk_wrap32 (y : Int) : I32.Okk (wrap32 y) := by
  have h1 : IntKind.i32.min = -2147483648 := rfl
  have h2 : IntKind.i32.max = 2147483647 := rfl
  unfold I32.Okk
  simp only [Lit.wf, Bool.and_eq_true, decide_eq_true_eq]
  unfold wrap32
  omega

/-- What is so at the head of the law's last loop. -/
structure Held (w w1 w2 : World) (l L : List Int) (gx capx : Nat) (p pa pb : Option Addr) (cap ca cb k : Nat) (A : List Int) (wr : World) : Prop where
  len : A.length = L.length
  rest : ∀ j, k ≤ j → A.getD j 0 = L.getD j 0
  a : I32.Own w1.heap.size wr (.slice pa L.length ca) A
  b : I32.Own w2.heap.size wr (.slice pb L.length cb) L
  x : LentAt w wr l gx capx
  l : U64.Bts wr (.slice p l.length cap) l
  below : Below w.heap.size w wr

theorem Held.drew {w w1 w2 : World} {l L : List Int} {gx capx : Nat} {p pa pb : Option Addr} {cap ca cb k : Nat} {A : List Int} {wr : World} (h : Held w w1 w2 l L gx capx p pa pb cap ca cb k A wr) (n : Nat) :
    Held w w1 w2 l L gx capx p pa pb cap ca cb k A (wr.drewN n) := by
  have hb : Below wr.heap.size wr (wr.drewN n) := below_drewN (Below.refl _ _) n
  exact ⟨h.len, h.rest, h.a.below hb, h.b.below hb, h.x.later hb, h.l.below hb, below_drewN h.below n⟩

theorem Held.store {w w1 w2 : World} {l L : List Int} {gx capx : Nat} {p pb : Option Addr} {cap ca cb k ga : Nat} {A : List Int} {wr : World} (h : Held w w1 w2 l L gx capx p (some ⟨ga, 0, none⟩) pb cap ca cb k A wr)
    (h1 : w1.heap.size ≤ ga) (h2 : ga < w2.heap.size) (hw : w.heap.size ≤ w1.heap.size) (hx : gx < w1.heap.size) (hp : ∀ b, (Value.slice p l.length cap).ownBlock = some b → 0 < l.length → b < w.heap.size) (z : Int) (hz : I32.Okk z) :
    Held w w1 w2 l L gx capx p (some ⟨ga, 0, none⟩) pb cap ca cb (k + 1) (A.set k z) (wr.setCell ⟨ga, k, none⟩ (.int .i32 z)) := by
  have ha := h.a
  rw [← h.len] at ha
  obtain ⟨s1, s2⟩ := ha.stored k z hz
  rw [h.len] at s1
  refine ⟨by simpa using h.len, ?_, s1, h.b.grown s2 ?_, h.x.grown s2 (by omega) (by omega), ?_, U64.below_grown h.below s2 h.below.size (by omega)⟩
  · intro j hj
    rw [← h.rest j (by omega)]
    simp only [List.getD_eq_getElem?_getD]
    rw [List.getElem?_set_ne (by omega)]
  · right
    intro e
    have := (h.b.own.lt ga e).1
    omega
  · refine h.l.grown s2 ?_
    intro h0 e
    have := hp ga e h0
    omega

set_option maxHeartbeats 1600000 in
set_option maxRecDepth 20000 in
theorem allLaw_any (v : Value) (l : List Int) (n : Int) (w : World) (hB : U64.Bts w v l) :
    Calls Try.prog 5 #[v, .int .i64 n] w fun e w' => e = .returned (.bool true) ∧ Below w.heap.size w w' := by
  have HB := Lib.hid hB
  obtain ⟨p, cap, rfl, hr, hn, hp⟩ := hB.form
  clear hp hB hr hn
  by_cases hlen : 5000 < l.length
  · go_enter Try.func5, Try.ntmps5
    go_wp2_with fail
    refine (known_any _).mono ?_
    rintro e w' ⟨rfl, rfl⟩
    go_wp2_with fail
    go_ret
    exact ⟨rfl, Below.refl _ _⟩
  · go_enter Try.func5, Try.ntmps5
    go_wp2_with fail
    refine (lent_any _ _ _ HB.out (by omega)).mono ?_
    rintro e w1 ⟨gx, capx, rfl, hL1⟩
    have HX1 := Lib.hid hL1
    have HW1 := Lib.hid hL1.below
    have HB1 := Lib.hid (HB.out.below hL1.below)
    clear hL1
    go_wp2_with fail
    refine (all_any _ _ _ _ (HX1.out.bts HB.out.small HB.out.len) (by omega)).mono ?_
    rintro e w2 ⟨va, rfl, hoa, hb2⟩
    have HA2 := Lib.hid hoa
    have HX2 := Lib.hid (HX1.out.later hb2)
    have HB2 := Lib.hid (HB1.out.below hb2)
    have HW2 := Lib.hid (HW1.out.trans (hb2.mono HW1.out.size))
    have HZ2 := Lib.hid hb2.size
    clear hoa hb2
    go_wp2_with fail
    refine (refAll_any _ _ _ _ HB2.out (by omega)).mono ?_
    rintro e w3 ⟨vb, rfl, hob, hb3⟩
    have HA3 := Lib.hid (HA2.out.below hb3)
    have HO3 := Lib.hid hob
    have HX3 := Lib.hid (HX2.out.later hb3)
    have HB3 := Lib.hid (HB2.out.below hb3)
    have HW3 := Lib.hid (HW2.out.trans (hb3.mono HW2.out.size))
    clear hob hb3
    generalize (Qf.allF l n).1 = m at *
    generalize (Qf.allF l n).2.1 = i1 at *
    generalize (Qf.allF l n).2.2.1 = e1 at *
    generalize (Qf.allF l n).2.2.2 = L at *
    obtain ⟨pa, ca, rfl, -, -, -⟩ := HA3.out.bts.form
    obtain ⟨pb, cb, rfl, -, -, -⟩ := HO3.out.bts.form
    have hgx : gx < w1.heap.size := block_lt_of_cell (HX1.out.cells 0 (by omega))
    have hw01 := HW1.out.size
    have hpb : Hid (∀ b, (Value.slice p l.length cap).ownBlock = some b → 0 < l.length → b < w.heap.size) := Lib.hid (by
      intro b hb h0
      obtain ⟨p', c', e1, -, -, hc⟩ := HB.out.form
      obtain ⟨b', off, e2, hcell⟩ := hc h0
      simp only [Value.slice.injEq] at e1
      obtain ⟨rfl, -, -⟩ := e1
      subst e2
      simp only [Value.ownBlock, Option.some.injEq] at hb
      subst hb
      exact block_lt_of_cell (hcell 0 h0))
    have hLl := HA3.out.len
    have hab : Hid (0 < L.length → ∃ ga, pa = some ⟨ga, 0, none⟩ ∧ w1.heap.size ≤ ga ∧ ga < w2.heap.size ∧ L.length ≤ ca ∧ ca ≤ 9223372036854775807) := Lib.hid (by
      intro h0
      rcases HA2.out.form with ⟨_, h1⟩ | ⟨g, c, e1, h1, h2, h3, h4⟩
      · rw [h1] at h0; simp at h0
      · simp only [Value.slice.injEq] at e1
        obtain ⟨rfl, -, rfl⟩ := e1
        exact ⟨g, rfl, h1, h4.lt, h2, h3⟩)
    have hbb : Hid (0 < L.length → ∃ gb, pb = some ⟨gb, 0, none⟩ ∧ L.length ≤ cb ∧ cb ≤ 9223372036854775807) := Lib.hid (by
      intro h0
      rcases HO3.out.form with ⟨_, h1⟩ | ⟨g, c, e1, h1, h2, h3, h4⟩
      · rw [h1] at h0; simp at h0
      · simp only [Value.slice.injEq] at e1
        obtain ⟨rfl, -, rfl⟩ := e1
        exact ⟨g, rfl, h2, h3⟩)
    have HH := Lib.hid (show Held w w1 w2 l L gx capx p pa pb cap ca cb 0 L w3 from ⟨rfl, fun _ _ => rfl, HA3.out, HO3.out, HX3.out, HB3.out, HW3.out⟩)
    clear HX1 HW1 HB1 HX2 HB2 HW2 HZ2 HX3 HB3 HW3 HA2 HA3 HO3 HB
    go_wp2_with fail
    go_loopw [14] (fun i wr => ∃ (k : Nat) (A : List Int), k ≤ L.length ∧ i = .int .i64 k ∧ Held w w1 w2 l L gx capx p pa pb cap ca cb k A wr) (fun i _ => L.length - (intOf i).toNat)
    case atStart => exact ⟨0, L, by omega, rfl, HH.out⟩
    case round =>
      obtain ⟨k, A, hk, rfl, hh⟩ := hrel
      have HK := Lib.hid hh
      clear hh
      by_cases hlt : k < L.length
      · obtain ⟨ga, rfl, hga1, hga2, hca, hca2⟩ := hab.out (by omega)
        obtain ⟨gb, rfl, hcb, hcb2⟩ := hbb.out (by omega)
        have hst := fun n z hz => (HK.out.drew n).store hga1 hga2 hw01 hgx hpb.out z hz
        have HST := Lib.hid hst
        have ha := HK.out.a
        rw [← HK.out.len] at ha
        obtain ⟨hc1, hf1⟩ := ha.cellAt k (by rw [HK.out.len]; exact hlt)
        rw [HK.out.rest k (Nat.le_refl _)] at hc1
        obtain ⟨hc2, -⟩ := HK.out.b.cellAt k hlt
        clear hst ha
        generalize L.getD k 0 = x at *
        go_wp2
        go_quiet (fail)
        go_wp2
        go_roundw
        case rel => exact ⟨k + 1, A.set k _, by omega, by go_num, HST.out _ _ (okk_wrap32 _)⟩
        case measure => simp [intOf]; omega
      · clear hab hbb HH
        go_wp2_with fail
        refine (kept_any _ l gx capx _ _ HK.out.x HK.out.l (by omega)).mono ?_
        rintro e w' ⟨rfl, n2, rfl⟩
        go_wp2_with fail
        refine (known_any _).mono ?_
        rintro e w' ⟨rfl, rfl⟩
        go_wp2_with fail
        go_ret
        exact ⟨rfl, below_drewN HK.out.below n2⟩
end Go.Proofs.Ytemamkbcagnigaa
