/- Lists of pages that a law keeps: a row of pages whose bodies are bytes of the law's own; the document's blank ones. Conditions: none. -/
import Derived.Test.YtkmkbjjpbodbfaaPapers
import Derived.Test.YtkmkbjjpbodbfaaDkBase
namespace Go.Proofs.Ytkmkbjjpbodbfaa
open Go.RowKit

theorem getD_app_l {α : Type} (a b : List α) (i : Nat) (d : α) (h : i < a.length) : (a ++ b).getD i d = a.getD i d := by
  simp only [List.getD_eq_getElem?_getD]
  rw [List.getElem?_append_left h]
theorem getD_app_end {α : Type} (a : List α) (x : α) (d : α) : (a ++ [x]).getD a.length d = x := by
  simp [List.getD_eq_getElem?_getD]
/-- Rows of unlike elements lie apart. -/
theorem apart_rows {w : World} {a b n k s t : Nat} {e f : TypeId} {xs ys : List Value} {u v : Value} (h1 : w.ownsRow a e s u n xs) (h2 : w.ownsRow b f t v k ys) (hne : e ≠ f) : u.ownBlock = none ∨ u.ownBlock ≠ v.ownBlock := by
  rcases h1.2 with ⟨h, _⟩ | ⟨g, cap, cur, hv, hb, hh, _⟩
  · exact Or.inl (by rw [h]; rfl)
  · rcases h2.2 with ⟨h, _⟩ | ⟨g2, cap2, cur2, hv2, hb2, hh2, _⟩
    · exact Or.inr (by rw [h, hv]; simp [Value.ownBlock])
    · refine Or.inr ?_
      rw [hv, hv2]
      intro e'
      simp only [Value.ownBlock, Option.some.injEq] at e'
      subst e'
      rw [hh] at hh2
      simp only [Option.some.injEq, Obj.cells.injEq] at hh2
      exact hne hh2.2.1

/-- A row of pages that reads as the list L, in blocks of P. -/
structure PRow (base : Nat) (P : Nat → Prop) (w : World) (v : Value) (l : List Pp) (L : List (Nat × List Nat)) : Prop where
  own : POwn base w v l
  len : l.length = L.length
  row : ∀ g, v.ownBlock = some g → P g
  key : ∀ i, i < L.length → (l.getD i dP).1 = (L.getD i (0, [])).1
  body : ∀ i, i < L.length → Own base w (l.getD i dP).2 (L.getD i (0, [])).2
  blk : ∀ i, i < L.length → ∀ b, (l.getD i dP).2.ownBlock = some b → P b

theorem POwn.touch {base : Nat} {w w' : World} {v : Value} {l : List Pp} {S : Nat → Prop} (h : POwn base w v l) (ht : Touch S w w') (hs : ∀ g, v.ownBlock = some g → ¬ S g) : POwn base w' v l := by
  refine ⟨h.1, ?_⟩
  rcases h.2 with h2 | ⟨g, cap, cur, hv, hb, hh, r⟩
  · exact Or.inl h2
  · exact Or.inr ⟨g, cap, cur, hv, hb, ht.row hh (hs g (by rw [hv]; rfl)), r⟩
theorem Own.touch {base : Nat} {w w' : World} {v : Value} {l : List Nat} {S : Nat → Prop} (h : Own base w v l) (ht : Touch S w w') (hs : ∀ g, v.ownBlock = some g → ¬ S g) : Own base w' v l := by
  refine ⟨⟨h.own.1, ?_⟩, h.small, h.len⟩
  rcases h.own.2 with h2 | ⟨g, cap, cur, hv, hb, hh, r⟩
  · exact Or.inl h2
  · exact Or.inr ⟨g, cap, cur, hv, hb, ht.row hh (hs g (by rw [hv]; rfl)), r⟩
theorem PRow.touch {base : Nat} {P S : Nat → Prop} {w w' : World} {v : Value} {l : List Pp} {L : List (Nat × List Nat)} (h : PRow base P w v l L) (ht : Touch S w w') (hs : ∀ g, P g → ¬ S g) : PRow base P w' v l L where
  own := h.own.touch ht fun g hg => hs g (h.row g hg)
  len := h.len
  row := h.row
  key := h.key
  body := fun i hi => (h.body i hi).touch ht fun g hg => hs g (h.blk i hi g hg)
  blk := h.blk
theorem PRow.mono {base : Nat} {P Q : Nat → Prop} {w : World} {v : Value} {l : List Pp} {L : List (Nat × List Nat)} (h : PRow base P w v l L) (hq : ∀ g, P g → Q g) : PRow base Q w v l L where
  own := h.own
  len := h.len
  row := fun g hg => hq g (h.row g hg)
  key := h.key
  body := h.body
  blk := fun i hi b hb => hq b (h.blk i hi b hb)
theorem PRow.new {base : Nat} {P : Nat → Prop} {w : World} {v : Value} {l : List Pp} {L : List (Nat × List Nat)} (h : PRow base P w v l L) : PRow base (fun i => base ≤ i ∧ i < w.heap.size) w v l L where
  own := h.own
  len := h.len
  row := fun g hg => World.ownsRow.lt h.own g hg
  key := h.key
  body := h.body
  blk := fun i hi b hb => World.ownsRow.lt (h.body i hi).own b hb
theorem PRow.below {base : Nat} {P : Nat → Prop} {w w' : World} {v : Value} {l : List Pp} {L : List (Nat × List Nat)} (h : PRow base P w v l L) (hb : Below w.heap.size w w') : PRow base P w' v l L where
  own := h.own.below hb
  len := h.len
  row := h.row
  key := h.key
  body := fun i hi => (h.body i hi).below hb
  blk := h.blk
theorem prow_nil (base : Nat) (P : Nat → Prop) (w : World) : PRow base P w (.slice none 0 0) [] [] where
  own := pown_nil base w
  len := rfl
  row := fun g hg => by cases hg
  key := fun i hi => by simp at hi
  body := fun i hi => by simp at hi
  blk := fun i hi => by simp at hi

/-- One page more. -/
theorem PRow.snoc {base : Nat} {P : Nat → Prop} {w w' : World} {v v' u : Value} {l : List Pp} {L : List (Nat × List Nat)} {k : Nat} {m : List Nat} (h : PRow base P w v l L)
    (hO : POwn base w' v' (l ++ [(k, u)])) (hg : w.grownBy w' v.ownBlock) (hB : Own base w u m) : PRow base (fun i => base ≤ i ∧ i < w'.heap.size) w' v' (l ++ [(k, u)]) (L ++ [(k, m)]) := by
  have hbody : ∀ i, i < (L ++ [(k, m)]).length → Own base w' ((l ++ [(k, u)]).getD i dP).2 ((L ++ [(k, m)]).getD i (0, [])).2 := fun i hi => by
    rw [List.length_append, List.length_singleton] at hi
    by_cases he : i < L.length
    · rw [getD_app_l _ _ _ _ (by rw [h.len]; exact he), getD_app_l _ _ _ _ he]
      exact (h.body i he).grown hg (apart_rows (h.body i he).own h.own (by decide))
    · obtain rfl : i = L.length := by omega
      rw [getD_app_end, ← h.len, getD_app_end]
      exact hB.grown hg (apart_rows hB.own h.own (by decide))
  refine ⟨hO, by rw [List.length_append, List.length_append, h.len]; rfl, fun g hgv => World.ownsRow.lt hO g hgv, fun i hi => ?_, hbody, fun i hi b hb => World.ownsRow.lt (hbody i hi).own b hb⟩
  rw [List.length_append, List.length_singleton] at hi
  by_cases he : i < L.length
  · rw [getD_app_l _ _ _ _ (by rw [h.len]; exact he), getD_app_l _ _ _ _ he]; exact h.key i he
  · obtain rfl : i = L.length := by omega
    rw [getD_app_end, ← h.len, getD_app_end]

/-- A page written over. -/
theorem PRow.stored {base g cap : Nat} {P : Nat → Prop} {w : World} {u : Value} {l : List Pp} {L : List (Nat × List Nat)} {k : Nat} {m : List Nat} (h : PRow base P w (.slice (some ⟨g, 0, none⟩) L.length cap) l L) {i : Nat} (hi : i < L.length)
    (hB : Own base w u m) : ∃ Q : Nat → Prop, PRow base Q ((w.setCell ⟨g, i * 2, none⟩ (.int .u64 (k : Int))).setCell ⟨g, i * 2 + 1, none⟩ u) (.slice (some ⟨g, 0, none⟩) L.length cap) (l.set i (k, u)) (L.set i (k, m)) ∧
      (∀ b, Q b → P b ∨ u.ownBlock = some b) ∧ w.grownBy ((w.setCell ⟨g, i * 2, none⟩ (.int .u64 (k : Int))).setCell ⟨g, i * 2 + 1, none⟩ u) (some g) := by
  have hown := h.own
  rw [← h.len] at hown
  obtain ⟨h1, h2⟩ := hown.stored i (by rw [h.len]; exact hi) (k, u)
  rw [h.len] at h1
  have hsep : ∀ {x : Value} {c : List Nat}, Own base w x c → Own base ((w.setCell ⟨g, i * 2, none⟩ (.int .u64 (k : Int))).setCell ⟨g, i * 2 + 1, none⟩ u) x c := fun hx =>
    hx.grown h2 (apart_rows (v := .slice (some ⟨g, 0, none⟩) L.length cap) hx.own h.own (by decide))
  refine ⟨fun b => P b ∨ u.ownBlock = some b, ⟨h1, by rw [List.length_set, List.length_set, h.len], fun b hb => Or.inl (h.row b hb), fun j hj => ?_, fun j hj => ?_, fun j hj b hb => ?_⟩, fun b hb => hb, h2⟩
  · rw [List.length_set] at hj
    simp only [List.getD_eq_getElem?_getD]
    by_cases he : i = j
    · subst he
      rw [List.getElem?_set_self (by rw [h.len]; exact hj), List.getElem?_set_self hj]; rfl
    · rw [List.getElem?_set_ne he, List.getElem?_set_ne he]
      have := h.key j hj
      simpa only [List.getD_eq_getElem?_getD] using this
  · rw [List.length_set] at hj
    simp only [List.getD_eq_getElem?_getD]
    by_cases he : i = j
    · subst he
      rw [List.getElem?_set_self (by rw [h.len]; exact hj), List.getElem?_set_self hj]; exact hsep hB
    · rw [List.getElem?_set_ne he, List.getElem?_set_ne he]
      have := hsep (h.body j hj)
      simpa only [List.getD_eq_getElem?_getD] using this
  · rw [List.length_set] at hj
    simp only [List.getD_eq_getElem?_getD] at hb
    by_cases he : i = j
    · subst he
      rw [List.getElem?_set_self (by rw [h.len]; exact hj)] at hb; exact Or.inr hb
    · rw [List.getElem?_set_ne he] at hb
      have := h.blk j hj
      simp only [List.getD_eq_getElem?_getD] at this
      exact Or.inl (this b hb)

set_option maxHeartbeats 1600000 in
set_option maxRecDepth 20000 in
theorem blanks_any (n : Nat) (hn : n ≤ 1000) (w : World) : Calls Try.prog 16 #[.int .i64 (n : Int)] w fun e w' => ∃ v l, e = .returned v ∧ PRow w.heap.size (fun i => w.heap.size ≤ i ∧ i < w'.heap.size) w' v l (List.replicate n (0, Pg.zeros 500)) ∧ Below w.heap.size w w' := by
  go_enter Try.func16, Try.ntmps16
  go_wp2_with fail
  go_loopw [3, 4] (fun v i wr => ∃ k : Nat, k ≤ n ∧ i = .int .i64 k ∧ (∃ l, PRow w.heap.size (fun i => w.heap.size ≤ i ∧ i < wr.heap.size) wr v l (List.replicate k (0, Pg.zeros 500))) ∧ Below w.heap.size w wr) (fun _ i _ => n - (intOf i).toNat)
  case atStart => exact ⟨0, Nat.zero_le _, rfl, ⟨[], prow_nil _ _ _⟩, Below.refl _ _⟩
  case round =>
    obtain ⟨k, hk, rfl, hR, hb⟩ := hrel
    have HR := Lib.hid hR
    have HB := Lib.hid hb
    clear hR hb
    by_cases hlt : k < n
    · have hki : (k : Int) < (n : Int) := by omega
      obtain ⟨l, hl⟩ := HR.out
      have HL := Lib.hid hl
      clear hl HR
      go_wp2_with fail
      refine (refBlank_any wr).mono ?_
      rintro e w2 ⟨x, rfl, hO, hb2⟩
      obtain ⟨p, c, rfl⟩ : ∃ p c, x = .slice p 500 c := by
        obtain ⟨p, c, e, -⟩ := hO.bts.form
        rw [Pg.zeros_length] at e
        exact ⟨p, c, e⟩
      have HO := Lib.hid hO
      have HB2 := Lib.hid hb2
      clear hO hb2
      dsimp only
      iterate 4 go_step
      have hal : Below w2.heap.size w2 (w2.alloc (.cells #[.int .u64 0, .slice p 500 c] 25)) := (Below.refl _ _).alloc (Nat.le_refl _) _
      have hl1 := (HL.out.below HB2.out).below hal
      have hlen : l.length = k := by rw [HL.out.len, List.length_replicate]
      refine wpList_append_POwn rfl (.tmp 10) (.tmp 12) rfl w.heap.size u3 l rfl hl1.own _ [(0, .slice p 500 c)] rfl (pbts_one w2 (0, .slice p 500 c)) (by simp [Value.oneCell']) (by rw [hlen, List.length_singleton]; omega) (Nat.le_trans HB.out.size (Nat.le_trans HB2.out.size hal.size)) ?_
      intro v' w3 hO3 hb3 hg3
      have hs := hl1.snoc hO3 hg3 ((HO.out.from HB.out.size).below hal)
      rw [← List.replicate_succ'] at hs
      have HS := Lib.hid hs
      have HB3 := Lib.hid ((HB.out.trans ((HB2.out.trans (hal.mono HB2.out.size)).mono HB.out.size)).trans hb3)
      clear hs hO3 hb3 hg3 hlen hl1 hal
      go_wp2_with fail
      go_roundw
      case rel => exact ⟨k + 1, by omega, by go_num, ⟨_, HS.out⟩, HB3.out⟩
      case measure => simp [intOf]; omega
    · obtain rfl : k = n := by omega
      go_wp2_with fail
      go_ret
      obtain ⟨l, hl⟩ := HR.out
      exact ⟨_, l, rfl, hl, HB.out⟩
end Go.Proofs.Ytkmkbjjpbodbfaa
