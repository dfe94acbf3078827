/- Open transactions and dirty pages, read by the program. Conditions: a reader stands at the bytes. What would be a record, read by the program. Conditions: a reader stands at the bytes. -/
import Derived.Test.YtafpjcobagofcaaGreatLrEight
import Derived.Test.YtafpjcobagofcaaGreatCodeM
import Derived.Test.YtafpjcobagofcaaGreatRecM
import Derived.Test.YtafpjcobagofcaaGreatLrWithin
namespace Go.Proofs.YtafpjcobagofcaaGreat
open Go.RowKit

theorem Rd.small {T : TypeId} {lo : Nat → Prop} {w : World} {B e : Nat} {l : List Nat} (h : Rd T lo w B l e) : ∀ x ∈ l, x < 256 := by
  obtain ⟨s, -, hB, -⟩ := h
  exact hB.small
theorem Cod.rdNum_lt (k : Nat) (l : List Nat) (e : Nat) (h : ∀ x ∈ l, x < 256) : (Cod.rdNum k l e).1 < 256 ^ k := by
  have hp : 0 < 256 ^ k := Nat.pow_pos (by decide)
  unfold Cod.rdNum
  split
  · exact hp
  split
  · exact hp
  · have h1 := Cod.num_lt (l.take k) (fun x hx => h x (List.mem_of_mem_take hx))
    have h2 : (l.take k).length ≤ k := by rw [List.length_take]; omega
    exact Nat.lt_of_lt_of_le h1 (Nat.pow_le_pow_right (by decide) h2)
theorem set_next' {α : Type} [Inhabited α] (acc : List α) (z : α) (j : Nat) (h : 0 < j) : (acc ++ List.replicate j default).set acc.length z = acc ++ [z] ++ List.replicate (j - 1) default := by
  obtain ⟨i, rfl⟩ : ∃ i, j = i + 1 := ⟨j - 1, by omega⟩
  rw [List.replicate_succ, List.set_append_right _ _ (Nat.le_refl _), Nat.sub_self]
  simp
/-- A new block written beside: only what was there ahead counts. -/
theorem grown_two {a b c : World} {B g : Nat} (h : a.grownBy b (some B)) (k : b.grownBy c (some g)) (hg : a.heap.size ≤ g) : a.grownBy c (some B) :=
  ⟨k.os.trans h.os, k.tape.trans h.tape, k.output.trans h.output, Nat.le_trans h.size k.size, fun i hi hr => (k.block i (Nat.lt_of_lt_of_le hi h.size) (fun e => by have := Option.some.inj e; omega)).trans (h.block i hi hr)⟩
theorem Chr.Own.parts {base g cap : Nat} {w : World} {l : List Chr.El} (h : Chr.Own base w (.slice (some ⟨g, 0, none⟩) l.length cap) l) (i : Nat) (hi : i < l.length) (u0 u1 : Value) :
    (∃ u, w.cell? ⟨g, i * 3, none⟩ = some u) ∧ w.frozen? ⟨g, i * 3, none⟩ = false ∧ (∃ u, (w.setCell ⟨g, i * 3, none⟩ u0).cell? ⟨g, i * 3 + 1, none⟩ = some u) ∧ (w.setCell ⟨g, i * 3, none⟩ u0).frozen? ⟨g, i * 3 + 1, none⟩ = false ∧ (∃ u, ((w.setCell ⟨g, i * 3, none⟩ u0).setCell ⟨g, i * 3 + 1, none⟩ u1).cell? ⟨g, i * 3 + 2, none⟩ = some u) ∧ ((w.setCell ⟨g, i * 3, none⟩ u0).setCell ⟨g, i * 3 + 1, none⟩ u1).frozen? ⟨g, i * 3 + 2, none⟩ = false := by
  obtain ⟨a0, -⟩ := World.ownsRow.stored h (i * 3) u0
  have c0 := World.ownsRow.cellAt h (i * 3) (by omega)
  have f0 := World.ownsRow.frozenAt h (i * 3)
  obtain ⟨a1, -⟩ := World.ownsRow.stored a0 (i * 3 + 1) u1
  have c1 := World.ownsRow.cellAt a0 (i * 3 + 1) (by omega)
  have f1 := World.ownsRow.frozenAt a0 (i * 3 + 1)
  have c2 := World.ownsRow.cellAt a1 (i * 3 + 2) (by omega)
  have f2 := World.ownsRow.frozenAt a1 (i * 3 + 2)
  have hl := Chr.cells_length l
  exact ⟨⟨_, c0.trans (List.getElem?_eq_getElem (by rw [hl]; omega))⟩, f0, ⟨_, c1.trans (List.getElem?_eq_getElem (by simp only [List.length_set]; rw [hl]; omega))⟩, f1, ⟨_, c2.trans (List.getElem?_eq_getElem (by simp only [List.length_set]; rw [hl]; omega))⟩, f2⟩
theorem Dir.Own.parts {base g cap : Nat} {w : World} {l : List Dir.El} (h : Dir.Own base w (.slice (some ⟨g, 0, none⟩) l.length cap) l) (i : Nat) (hi : i < l.length) (u0 : Value) :
    (∃ u, w.cell? ⟨g, i * 2, none⟩ = some u) ∧ w.frozen? ⟨g, i * 2, none⟩ = false ∧ (∃ u, (w.setCell ⟨g, i * 2, none⟩ u0).cell? ⟨g, i * 2 + 1, none⟩ = some u) ∧ (w.setCell ⟨g, i * 2, none⟩ u0).frozen? ⟨g, i * 2 + 1, none⟩ = false := by
  obtain ⟨a0, -⟩ := World.ownsRow.stored h (i * 2) u0
  have c0 := World.ownsRow.cellAt h (i * 2) (by omega)
  have f0 := World.ownsRow.frozenAt h (i * 2)
  have c1 := World.ownsRow.cellAt a0 (i * 2 + 1) (by omega)
  have f1 := World.ownsRow.frozenAt a0 (i * 2 + 1)
  have hl := Dir.cells_length l
  exact ⟨⟨_, c0.trans (List.getElem?_eq_getElem (by rw [hl]; omega))⟩, f0, ⟨_, c1.trans (List.getElem?_eq_getElem (by simp only [List.length_set]; rw [hl]; omega))⟩, f1⟩
/-- What they leave. -/
def Chr.Tk (lo : Nat → Prop) (B e : Nat) (l : List Nat) (w w' : World) (v : Value) : Prop :=
  ∃ n m l1 e1 C l2 e2, Cod.rdUv l e = (n, l1, e1) ∧ Lr.rdChs m l1 e1 = (C, l2, e2) ∧ (n ≤ 16 → m = n) ∧ m ≤ 16 ∧ Chr.Own w.heap.size w' v C ∧ (∀ c ∈ C, c.1 < 256 ^ 8 ∧ c.2.1 < 256 ^ 8 ∧ c.2.2 < 256 ^ 8) ∧ Rd 127 lo w' B l2 e2 ∧ w.grownBy w' (some B)
set_option maxHeartbeats 3200000 in
set_option maxRecDepth 20000 in
theorem Chr.take_any (lo : Nat → Prop) (B e : Nat) (l : List Nat) (w : World) (hR : Rd 127 lo w B l e) (hlo : ∀ b, lo b → b < B) :
    Calls Tryz.prog 88 #[.pointer (some ⟨B, 0, none⟩)] w fun en w' => ∃ v, en = .returned v ∧ Chr.Tk lo B e l w w' v := by
  have hlt := hR.lt
  have HR := Lib.hid hR
  have HLO := Lib.hid hlo
  obtain ⟨n, l1, e1, hu⟩ : ∃ n l1 e1, Cod.rdUv l e = (n, l1, e1) := ⟨_, _, _, rfl⟩
  have HU := Lib.hid hu
  have huv := Uv_any lo B e l w hR
  rw [hu] at huv
  clear hR hlo hu
  go_enter Tryz.func88, Tryz.ntmps88
  go_wp2_with fail
  refine huv.mono ?_
  rintro en w1 ⟨rfl, hR1, hg1⟩
  clear huv
  have HR1 := Lib.hid hR1
  have HG1 := Lib.hid hg1
  clear hR1 hg1
  by_cases hn : n ≤ 16
  · have hn2 : ¬ (16 : Int) < (n : Int) := by omega
    have hn3 : ¬ ((n : Int) > 16) := by omega
    have HN := Lib.hid hn
    go_upto_region 4 with (fail)
    iterate 4 go_step
    refine Chr.wpList_make_len rfl (.tmp 10) (.tmp 10) rfl w1.heap.size .u64 .u64 n rfl rfl (by omega) (Nat.le_refl _) ?_
    intro g w2 hO2 hg hb2
    have HO2 := Lib.hid hO2
    have HB2 := Lib.hid hb2
    have HGE := Lib.hid hg
    have hBg : B < g := by have := HG1.out.size; omega
    have HR2 := Lib.hid (HR1.out.below hb2)
    have HG2 := Lib.hid (grownBy_trans HG1.out (grownBy_below hb2 (some B)))
    clear hO2 hb2 hg hn2 hn3
    go_wp2_with fail
    go_loopw [14] (fun i wr => ∃ k : Nat, k ≤ n ∧ i = .int .i64 k ∧ ∃ C l' e', Lr.rdChs k l1 e1 = (C, l', e') ∧ C.length = k ∧ (∀ c ∈ C, c.1 < 256 ^ 8 ∧ c.2.1 < 256 ^ 8 ∧ c.2.2 < 256 ^ 8) ∧ Chr.Own w1.heap.size wr (.slice (some ⟨g, 0, none⟩) n n) (C ++ List.replicate (n - k) default) ∧ Rd 127 lo wr B l' e' ∧ w.grownBy wr (some B)) (fun i _ => n - (intOf i).toNat)
    case atStart => exact ⟨0, Nat.zero_le _, rfl, [], l1, e1, rfl, rfl, by simp, HO2.out, HR2.out, HG2.out⟩
    case round =>
      obtain ⟨k, hk, rfl, C, l', e', hrd, hCl, hCb, hO, hRr, hG⟩ := hrel
      by_cases hlt2 : k < n
      · have hi : (k : Int) < (n : Int) := by omega
        have hi0 : (0 : Int) ≤ (k : Int) := by omega
        have hw1 := IntWalk.i64_in ((k : Int) + 1) (by omega)
        have HRD := Lib.hid hrd
        have HCL := Lib.hid hCl
        have HCB := Lib.hid hCb
        have HO := Lib.hid hO
        have HG := Lib.hid hG
        have HLT := Lib.hid hlt2
        obtain ⟨x0, m0, f0, hx0⟩ : ∃ x m f, Cod.rdNum 8 l' e' = (x, m, f) := ⟨_, _, _, rfl⟩
        have hc0 := U64_any lo B e' l' wr hRr
        have hs0 := Cod.rdNum_lt 8 l' e' hRr.small
        rw [hx0] at hc0 hs0
        have HX0 := Lib.hid hx0
        have HS0 := Lib.hid hs0
        clear hx0 hs0 hrd hCl hCb hO hRr hG hlt2
        go_wp2_with fail
        refine hc0.mono ?_
        rintro en v0 ⟨rfl, hR0', hG0'⟩
        clear hc0
        have HG0' := Lib.hid hG0'
        clear hG0'
        obtain ⟨x1, m1, f1, hx1⟩ : ∃ x m f, Cod.rdNum 8 m0 f0 = (x, m, f) := ⟨_, _, _, rfl⟩
        have hc1 := U64_any lo B f0 m0 v0 hR0'
        have hs1 := Cod.rdNum_lt 8 m0 f0 hR0'.small
        rw [hx1] at hc1 hs1
        have HX1 := Lib.hid hx1
        have HS1 := Lib.hid hs1
        clear hx1 hs1 
        go_wp2_with fail
        refine hc1.mono ?_
        rintro en v1 ⟨rfl, hR1', hG1'⟩
        clear hc1
        have HG1' := Lib.hid hG1'
        clear hG1'
        obtain ⟨x2, m2, f2, hx2⟩ : ∃ x m f, Cod.rdNum 8 m1 f1 = (x, m, f) := ⟨_, _, _, rfl⟩
        have hc2 := U64_any lo B f1 m1 v1 hR1'
        have hs2 := Cod.rdNum_lt 8 m1 f1 hR1'.small
        rw [hx2] at hc2 hs2
        have HX2 := Lib.hid hx2
        have HS2 := Lib.hid hs2
        clear hx2 hs2 
        go_wp2_with fail
        refine hc2.mono ?_
        rintro en v2 ⟨rfl, hR2', hG2'⟩
        clear hc2
        have HG2' := Lib.hid hG2'
        clear hG2'
        have HRL := Lib.hid hR2'
        clear hR2' hR0' hR1'
        have HGL := Lib.hid (grownBy_trans (grownBy_trans (grownBy_trans HG.out HG0'.out) HG1'.out) HG2'.out)
        have hOw : Chr.Own w1.heap.size v2 (.slice (some ⟨g, 0, none⟩) n n) (C ++ List.replicate (n - k) default) := (((HO.out.grown HG0'.out (Or.inr (by simp [Value.ownBlock]; omega))).grown HG1'.out (Or.inr (by simp [Value.ownBlock]; omega))).grown HG2'.out (Or.inr (by simp [Value.ownBlock]; omega)))
        have hlen : (C ++ List.replicate (n - k) (default : Chr.El)).length = n := by rw [List.length_append, List.length_replicate, HCL.out]; omega
        have hOw2 : Chr.Own w1.heap.size v2 (.slice (some ⟨g, 0, none⟩) (C ++ List.replicate (n - k) (default : Chr.El)).length n) (C ++ List.replicate (n - k) default) := by rw [hlen]; exact hOw
        obtain ⟨⟨u0, cu0⟩, fu0, ⟨u1, cu1⟩, fu1, ⟨u2, cu2⟩, fu2⟩ := hOw2.parts k (by rw [hlen]; exact HLT.out) (.int .u64 (x0 : Int)) (.int .u64 (x1 : Int))
        have HST := Lib.hid (hOw2.stored k (by rw [hlen]; exact HLT.out) (x0, x1, x2))
        have HLEN := Lib.hid hlen
        clear hOw hOw2 hlen
        go_wp2_with fail
        go_roundw
        case rel =>
          refine ⟨k + 1, HLT.out, by go_num, C ++ [(x0, x1, x2)], m2, f2, ?_, ?_, ?_, ?_, ?_, ?_⟩
          · exact Lr.rdChs_succ HRD.out HX0.out HX1.out HX2.out
          · rw [List.length_append, HCL.out]; rfl
          · intro c hc
            rcases List.mem_append.1 hc with hc | hc
            · exact HCB.out c hc
            · rw [List.mem_singleton.1 hc]
              exact ⟨HS0.out, HS1.out, HS2.out⟩
          · have h2 := HST.out.1
            have e : (C ++ List.replicate (n - k) (default : Chr.El)).set k (x0, x1, x2) = (C ++ [(x0, x1, x2)]) ++ List.replicate (n - (k + 1)) default := by
              have h3 := set_next' C (x0, x1, x2) (n - k) (by have := HLT.out; omega)
              rw [HCL.out] at h3
              rw [h3, show n - k - 1 = n - (k + 1) by omega]
            rw [e, HLEN.out] at h2
            exact h2
          · exact HRL.out.grown HST.out.2 (fun g' hg' => by
              cases hg'
              exact ⟨fun h => by have := HLO.out _ h; omega, by omega⟩)
          · exact grown_two HGL.out HST.out.2 (by have := HGE.out; have := HG1.out.size; omega)
        case measure => have := HLT.out; simp [intOf]; omega
      · obtain rfl : k = n := by omega
        have hi : ¬ (k : Int) < (k : Int) := by omega
        have HRD := Lib.hid hrd
        have HCB := Lib.hid hCb
        have HO := Lib.hid hO
        have HG := Lib.hid hG
        have HRr := Lib.hid hRr
        clear hrd hCl hCb hO hRr hG hlt2
        go_wp2_with fail
        go_ret
        refine ⟨_, rfl, k, k, l1, e1, C, l', e', HU.out, HRD.out, fun _ => rfl, HN.out, ?_, HCB.out, HRr.out, HG.out⟩
        have h2 := HO.out
        rw [Nat.sub_self, List.replicate_zero, List.append_nil] at h2
        exact h2.from HG1.out.size
  · have hn2 : (16 : Int) < (n : Int) := by omega
    go_wp2_with fail
    go_ret
    exact ⟨_, rfl, n, 0, l1, e1, [], l1, e1, HU.out, rfl, fun h => absurd h hn, Nat.zero_le _, Chr.own_nil _ _, by simp, HR1.out, HG1.out⟩

/-- What they leave. -/
def Dir.Tk (lo : Nat → Prop) (B e : Nat) (l : List Nat) (w w' : World) (v : Value) : Prop :=
  ∃ n m l1 e1 C l2 e2, Cod.rdUv l e = (n, l1, e1) ∧ Lr.rdDis m l1 e1 = (C, l2, e2) ∧ (n ≤ 64 → m = n) ∧ m ≤ 64 ∧ Dir.Own w.heap.size w' v C ∧ (∀ c ∈ C, c.1 < 256 ^ 4 ∧ c.2 < 256 ^ 8) ∧ Rd 127 lo w' B l2 e2 ∧ w.grownBy w' (some B)
set_option maxHeartbeats 3200000 in
set_option maxRecDepth 20000 in
theorem Dir.take_any (lo : Nat → Prop) (B e : Nat) (l : List Nat) (w : World) (hR : Rd 127 lo w B l e) (hlo : ∀ b, lo b → b < B) :
    Calls Tryz.prog 89 #[.pointer (some ⟨B, 0, none⟩)] w fun en w' => ∃ v, en = .returned v ∧ Dir.Tk lo B e l w w' v := by
  have hlt := hR.lt
  have HR := Lib.hid hR
  have HLO := Lib.hid hlo
  obtain ⟨n, l1, e1, hu⟩ : ∃ n l1 e1, Cod.rdUv l e = (n, l1, e1) := ⟨_, _, _, rfl⟩
  have HU := Lib.hid hu
  have huv := Uv_any lo B e l w hR
  rw [hu] at huv
  clear hR hlo hu
  go_enter Tryz.func89, Tryz.ntmps89
  go_wp2_with fail
  refine huv.mono ?_
  rintro en w1 ⟨rfl, hR1, hg1⟩
  clear huv
  have HR1 := Lib.hid hR1
  have HG1 := Lib.hid hg1
  clear hR1 hg1
  by_cases hn : n ≤ 64
  · have hn2 : ¬ (64 : Int) < (n : Int) := by omega
    have hn3 : ¬ ((n : Int) > 64) := by omega
    have HN := Lib.hid hn
    go_upto_region 4 with (fail)
    iterate 4 go_step
    refine Dir.wpList_make_len rfl (.tmp 10) (.tmp 10) rfl w1.heap.size .u64 .u64 n rfl rfl (by omega) (Nat.le_refl _) ?_
    intro g w2 hO2 hg hb2
    have HO2 := Lib.hid hO2
    have HB2 := Lib.hid hb2
    have HGE := Lib.hid hg
    have hBg : B < g := by have := HG1.out.size; omega
    have HR2 := Lib.hid (HR1.out.below hb2)
    have HG2 := Lib.hid (grownBy_trans HG1.out (grownBy_below hb2 (some B)))
    clear hO2 hb2 hg hn2 hn3
    go_wp2_with fail
    go_loopw [14] (fun i wr => ∃ k : Nat, k ≤ n ∧ i = .int .i64 k ∧ ∃ C l' e', Lr.rdDis k l1 e1 = (C, l', e') ∧ C.length = k ∧ (∀ c ∈ C, c.1 < 256 ^ 4 ∧ c.2 < 256 ^ 8) ∧ Dir.Own w1.heap.size wr (.slice (some ⟨g, 0, none⟩) n n) (C ++ List.replicate (n - k) default) ∧ Rd 127 lo wr B l' e' ∧ w.grownBy wr (some B)) (fun i _ => n - (intOf i).toNat)
    case atStart => exact ⟨0, Nat.zero_le _, rfl, [], l1, e1, rfl, rfl, by simp, HO2.out, HR2.out, HG2.out⟩
    case round =>
      obtain ⟨k, hk, rfl, C, l', e', hrd, hCl, hCb, hO, hRr, hG⟩ := hrel
      by_cases hlt2 : k < n
      · have hi : (k : Int) < (n : Int) := by omega
        have hi0 : (0 : Int) ≤ (k : Int) := by omega
        have hw1 := IntWalk.i64_in ((k : Int) + 1) (by omega)
        have HRD := Lib.hid hrd
        have HCL := Lib.hid hCl
        have HCB := Lib.hid hCb
        have HO := Lib.hid hO
        have HG := Lib.hid hG
        have HLT := Lib.hid hlt2
        obtain ⟨x0, m0, f0, hx0⟩ : ∃ x m f, Cod.rdNum 4 l' e' = (x, m, f) := ⟨_, _, _, rfl⟩
        have hc0 := U32_any lo B e' l' wr hRr
        have hs0 := Cod.rdNum_lt 4 l' e' hRr.small
        rw [hx0] at hc0 hs0
        have HX0 := Lib.hid hx0
        have HS0 := Lib.hid hs0
        clear hx0 hs0 hrd hCl hCb hO hRr hG hlt2
        go_wp2_with fail
        refine hc0.mono ?_
        rintro en v0 ⟨rfl, hR0', hG0'⟩
        clear hc0
        have HG0' := Lib.hid hG0'
        clear hG0'
        obtain ⟨x1, m1, f1, hx1⟩ : ∃ x m f, Cod.rdNum 8 m0 f0 = (x, m, f) := ⟨_, _, _, rfl⟩
        have hc1 := U64_any lo B f0 m0 v0 hR0'
        have hs1 := Cod.rdNum_lt 8 m0 f0 hR0'.small
        rw [hx1] at hc1 hs1
        have HX1 := Lib.hid hx1
        have HS1 := Lib.hid hs1
        clear hx1 hs1 
        go_wp2_with fail
        refine hc1.mono ?_
        rintro en v1 ⟨rfl, hR1', hG1'⟩
        clear hc1
        have HG1' := Lib.hid hG1'
        clear hG1'
        have HRL := Lib.hid hR1'
        clear hR1' hR0'
        have HGL := Lib.hid (grownBy_trans (grownBy_trans HG.out HG0'.out) HG1'.out)
        have hOw : Dir.Own w1.heap.size v1 (.slice (some ⟨g, 0, none⟩) n n) (C ++ List.replicate (n - k) default) := ((HO.out.grown HG0'.out (Or.inr (by simp [Value.ownBlock]; omega))).grown HG1'.out (Or.inr (by simp [Value.ownBlock]; omega)))
        have hlen : (C ++ List.replicate (n - k) (default : Dir.El)).length = n := by rw [List.length_append, List.length_replicate, HCL.out]; omega
        have hOw2 : Dir.Own w1.heap.size v1 (.slice (some ⟨g, 0, none⟩) (C ++ List.replicate (n - k) (default : Dir.El)).length n) (C ++ List.replicate (n - k) default) := by rw [hlen]; exact hOw
        obtain ⟨⟨u0, cu0⟩, fu0, ⟨u1, cu1⟩, fu1⟩ := hOw2.parts k (by rw [hlen]; exact HLT.out) (.int .u32 (x0 : Int))
        have HST := Lib.hid (hOw2.stored k (by rw [hlen]; exact HLT.out) (x0, x1))
        have HLEN := Lib.hid hlen
        clear hOw hOw2 hlen
        go_wp2_with fail
        go_roundw
        case rel =>
          refine ⟨k + 1, HLT.out, by go_num, C ++ [(x0, x1)], m1, f1, ?_, ?_, ?_, ?_, ?_, ?_⟩
          · exact Lr.rdDis_succ HRD.out HX0.out HX1.out
          · rw [List.length_append, HCL.out]; rfl
          · intro c hc
            rcases List.mem_append.1 hc with hc | hc
            · exact HCB.out c hc
            · rw [List.mem_singleton.1 hc]
              exact ⟨HS0.out, HS1.out⟩
          · have h2 := HST.out.1
            have e : (C ++ List.replicate (n - k) (default : Dir.El)).set k (x0, x1) = (C ++ [(x0, x1)]) ++ List.replicate (n - (k + 1)) default := by
              have h3 := set_next' C (x0, x1) (n - k) (by have := HLT.out; omega)
              rw [HCL.out] at h3
              rw [h3, show n - k - 1 = n - (k + 1) by omega]
            rw [e, HLEN.out] at h2
            exact h2
          · exact HRL.out.grown HST.out.2 (fun g' hg' => by
              cases hg'
              exact ⟨fun h => by have := HLO.out _ h; omega, by omega⟩)
          · exact grown_two HGL.out HST.out.2 (by have := HGE.out; have := HG1.out.size; omega)
        case measure => have := HLT.out; simp [intOf]; omega
      · obtain rfl : k = n := by omega
        have hi : ¬ (k : Int) < (k : Int) := by omega
        have HRD := Lib.hid hrd
        have HCB := Lib.hid hCb
        have HO := Lib.hid hO
        have HG := Lib.hid hG
        have HRr := Lib.hid hRr
        clear hrd hCl hCb hO hRr hG hlt2
        go_wp2_with fail
        go_ret
        refine ⟨_, rfl, k, k, l1, e1, C, l', e', HU.out, HRD.out, fun _ => rfl, HN.out, ?_, HCB.out, HRr.out, HG.out⟩
        have h2 := HO.out
        rw [Nat.sub_self, List.replicate_zero, List.append_nil] at h2
        exact h2.from HG1.out.size
  · have hn2 : (64 : Int) < (n : Int) := by omega
    go_wp2_with fail
    go_ret
    exact ⟨_, rfl, n, 0, l1, e1, [], l1, e1, HU.out, rfl, fun h => absurd h hn, Nat.zero_le _, Dir.own_nil _ _, by simp, HR1.out, HG1.out⟩

end Go.Proofs.YtafpjcobagofcaaGreat

namespace Go.Proofs.YtafpjcobagofcaaGreat
open Go.RowKit

theorem Cod.rdText_len (most : Int) (l : List Nat) (e : Nat) : ((Cod.rdText most l e).1.length : Int) ≤ max most 0 := by
  unfold Cod.rdText
  split
  · simp; omega
  split
  · simp; omega
  split
  · simp; omega
  split
  · simp; omega
  · simp only [List.length_take, List.length_drop]; omega
theorem own_neB {base B : Nat} {w : World} {v : Value} {l : List Nat} (h : Own base w v l) (hB : B < base) : v.ownBlock = none ∨ v.ownBlock ≠ some B := by
  rcases h.form with ⟨rfl, -⟩ | ⟨g, cap, rfl, hg, -⟩
  · exact Or.inl rfl
  · right; simp only [Value.ownBlock, ne_eq, Option.some.injEq]; omega
theorem Chr.own_neB {base B : Nat} {w : World} {v : Value} {l : List Lr.Ch} (h : Chr.Own base w v l) (hB : B < base) : v.ownBlock = none ∨ v.ownBlock ≠ some B := by
  rcases h.form with ⟨rfl, -⟩ | ⟨g, cap, rfl, hg, -⟩
  · exact Or.inl rfl
  · right; simp only [Value.ownBlock, ne_eq, Option.some.injEq]; omega
theorem Dir.own_neB {base B : Nat} {w : World} {v : Value} {l : List Lr.Di} (h : Dir.Own base w v l) (hB : B < base) : v.ownBlock = none ∨ v.ownBlock ≠ some B := by
  rcases h.form with ⟨rfl, -⟩ | ⟨g, cap, rfl, hg, -⟩
  · exact Or.inl rfl
  · right; simp only [Value.ownBlock, ne_eq, Option.some.injEq]; omega
/-- What is read. -/
def TakeIs (l : List Nat) (w w' : World) (en : Ending) : Prop := ∃ x o n u c d e', en = .returned (RecV x o n u c d) ∧ RecOwn w.heap.size w' x o n u c d ∧ Lr.Took l x e' ∧ Lr.Few x
set_option maxHeartbeats 6400000 in
set_option maxRecDepth 20000 in
theorem takeRec_any (lo : Nat → Prop) (B : Nat) (l : List Nat) (w : World) (hR : Rd 127 lo w B l 0) (hlo : ∀ b, lo b → b < B) :
    Calls Tryz.prog 55 #[.pointer (some ⟨B, 0, none⟩)] w fun en w' => TakeIs l w w' en ∧ w.grownBy w' (some B) := by
  have HBL : Hid (B < w.heap.size) := hR.lt
  have HLO := Lib.hid hlo
  obtain ⟨W, hW⟩ : ∃ W, W = w.alloc zobj := ⟨_, rfl⟩
  have hb := below_new1 w zobj
  have hz := zblk w
  rw [← hW] at hb hz
  have HR := Lib.hid (hR.below hb)
  have HG := Lib.hid (grownBy_below hb (some B))
  unfold zobj at hW
  clear hR hlo hb
  go_enter Tryz.func55, Tryz.ntmps55
  go_upto_region 1 with (fail)
  rw [← hW]
  obtain ⟨Q, hQ⟩ : ∃ Q, Q = w.heap.size := ⟨_, rfl⟩
  rw [← hQ] at hz ⊢
  have HQ := Lib.hid hQ
  have HQB : Hid (¬ Q = B) := fun e => by have := HBL.out; omega
  have HZ := Lib.hid hz
  clear hW hQ hz
  obtain ⟨x0, m0, f0, hx⟩ : ∃ x m f, Cod.rdNum 4 l 0 = (x, m, f) := ⟨_, _, _, rfl⟩
  have hc := U32_any lo B 0 l W HR.out
  have hs := Cod.rdNum_lt 4 l 0 HR.out.small
  rw [hx] at hc hs
  have HX0 := Lib.hid hx
  have HS0 := Lib.hid hs
  clear hx hs
  go_wp2_with fail
  refine hc.mono ?_
  rintro en v0 ⟨rfl, hR, hg⟩
  have HR := Lib.hid hR
  clear hc hR
  have HG := Lib.hid (grownBy_trans HG.out hg)
  have HZ := Lib.hid ((hg.block _ (lt_of_block HZ.out) (fun e => HQB.out (Option.some.inj e))).trans HZ.out)
  clear hg
  obtain ⟨x1, m1, f1, hx⟩ : ∃ x m f, Cod.rdNum 2 m0 f0 = (x, m, f) := ⟨_, _, _, rfl⟩
  have hc := U16_any lo B f0 m0 v0 HR.out
  have hs := Cod.rdNum_lt 2 m0 f0 HR.out.small
  rw [hx] at hc hs
  have HX1 := Lib.hid hx
  have HS1 := Lib.hid hs
  clear hx hs
  go_wp2_with fail
  refine hc.mono ?_
  rintro en v1 ⟨rfl, hR, hg⟩
  have HR := Lib.hid hR
  clear hc hR
  have HG := Lib.hid (grownBy_trans HG.out hg)
  have HZ := Lib.hid ((hg.block _ (lt_of_block HZ.out) (fun e => HQB.out (Option.some.inj e))).trans HZ.out)
  clear hg
  obtain ⟨x2, m2, f2, hx⟩ : ∃ x m f, Cod.rdNum 8 m1 f1 = (x, m, f) := ⟨_, _, _, rfl⟩
  have hc := U64_any lo B f1 m1 v1 HR.out
  have hs := Cod.rdNum_lt 8 m1 f1 HR.out.small
  rw [hx] at hc hs
  have HX2 := Lib.hid hx
  have HS2 := Lib.hid hs
  clear hx hs
  go_wp2_with fail
  refine hc.mono ?_
  rintro en v2 ⟨rfl, hR, hg⟩
  have HR := Lib.hid hR
  clear hc hR
  have HG := Lib.hid (grownBy_trans HG.out hg)
  have HZ := Lib.hid ((hg.block _ (lt_of_block HZ.out) (fun e => HQB.out (Option.some.inj e))).trans HZ.out)
  clear hg
  obtain ⟨x3, m3, f3, hx⟩ : ∃ x m f, Cod.rdNum 4 m2 f2 = (x, m, f) := ⟨_, _, _, rfl⟩
  have hc := U32_any lo B f2 m2 v2 HR.out
  have hs := Cod.rdNum_lt 4 m2 f2 HR.out.small
  rw [hx] at hc hs
  have HX3 := Lib.hid hx
  have HS3 := Lib.hid hs
  clear hx hs
  go_wp2_with fail
  refine hc.mono ?_
  rintro en v3 ⟨rfl, hR, hg⟩
  have HR := Lib.hid hR
  clear hc hR
  have HG := Lib.hid (grownBy_trans HG.out hg)
  have HZ := Lib.hid ((hg.block _ (lt_of_block HZ.out) (fun e => HQB.out (Option.some.inj e))).trans HZ.out)
  clear hg
  obtain ⟨x4, m4, f4, hx⟩ : ∃ x m f, Cod.rdNum 1 m3 f3 = (x, m, f) := ⟨_, _, _, rfl⟩
  have hc := U8_any lo B f3 m3 v3 HR.out
  have hs := Cod.rdNum_lt 1 m3 f3 HR.out.small
  rw [hx] at hc hs
  have HX4 := Lib.hid hx
  have HS4 := Lib.hid hs
  clear hx hs
  go_wp2_with fail
  refine hc.mono ?_
  rintro en v4 ⟨rfl, hR, hg⟩
  have HR := Lib.hid hR
  clear hc hR
  have HG := Lib.hid (grownBy_trans HG.out hg)
  have HZ := Lib.hid ((hg.block _ (lt_of_block HZ.out) (fun e => HQB.out (Option.some.inj e))).trans HZ.out)
  clear hg
  have hwk : IntKind.i64.wrap (x4 : Int) = (x4 : Int) := IntWalk.i64_in _ (by have := HS4.out; rw [show (256 : Nat) ^ 1 = 256 from rfl] at this; omega)
  go_upto_region 4 with (fail)
  obtain ⟨Y, hY⟩ : ∃ Y, Y = v4.alloc (.cells #[.int .i64 (x4 : Int), .int .u64 (x2 : Int), .int .u32 (x3 : Int), .int .u64 0, .int .u32 0, .int .u16 0, .slice none 0 0, .slice none 0 0, .slice none 0 0, .int .u64 0, .int .u64 0, .bool false, .int .u64 0, .slice none 0 0, .slice none 0 0] 40) := ⟨_, rfl⟩
  have hbY : Below v4.heap.size v4 Y := by rw [hY]; exact below_new1 _ _
  have hrY : Y.heap[v4.heap.size]? = some (.cells #[.int .i64 (x4 : Int), .int .u64 (x2 : Int), .int .u32 (x3 : Int), .int .u64 0, .int .u32 0, .int .u16 0, .slice none 0 0, .slice none 0 0, .slice none 0 0, .int .u64 0, .int .u64 0, .bool false, .int .u64 0, .slice none 0 0, .slice none 0 0] 40 (0, 0)) := by rw [hY]; exact heap_alloc_last _ _
  rw [← hY]
  obtain ⟨y, hy⟩ : ∃ y, y = v4.heap.size := ⟨_, rfl⟩
  rw [← hy] at hrY ⊢
  have HYW : Hid (w.heap.size ≤ y) := by rw [hy]; exact HG.out.size
  have HYB2 : Hid (B < y) := Nat.lt_of_lt_of_le HBL.out HYW.out
  have HYB : Hid (¬ y = B) := fun e => by have := HYB2.out; omega
  have HQY : Hid (¬ Q = y) := fun e => by have := lt_of_block HZ.out; omega
  have HR := Lib.hid (HR.out.below hbY)
  have HZ := Lib.hid ((hbY.block _ (lt_of_block HZ.out)).trans HZ.out)
  have HG := Lib.hid (grownBy_trans HG.out (grownBy_below hbY (some B)))
  have HH := Lib.hid (Lr.head_of HX0.out HX1.out HX2.out HX3.out HX4.out)
  have HRY := Lib.hid hrY
  clear hrY hY hbY hy hwk HX0 HX1 HX2 HX3 HX4 HS0 HS1
  by_cases h1 : x4 = 1
  · as_aux_lemma =>
      subst h1
      rw [show ((1 : Nat) : Int) = 1 from rfl] at HRY
      obtain ⟨y0, y1, y2, y3, y4, y5, y6, y7, y8, y9, y10, y11, y12, y13, y14⟩ := rec_cell HRY.out
      go_upto_region 6 with (fail)
      clear y0 y1 y2 y3 y4 y5 y6 y7 y8 y9 y10 y11 y12 y13 y14
      obtain ⟨x5, m5, f5, hx⟩ : ∃ x m f, Cod.rdNum 4 m4 f4 = (x, m, f) := ⟨_, _, _, rfl⟩
      have hc := U32_any lo B f4 m4 Y HR.out
      have hs := Cod.rdNum_lt 4 m4 f4 HR.out.small
      rw [hx] at hc hs
      have HX5 := Lib.hid hx
      have HS5 := Lib.hid hs
      clear hx hs
      go_wp2_with fail
      refine hc.mono ?_
      rintro en v5 ⟨rfl, hR, hg⟩
      have HR := Lib.hid hR
      clear hc hR
      have HG := Lib.hid (grownBy_trans HG.out hg)
      have HZ := Lib.hid ((hg.block _ (lt_of_block HZ.out) (fun e => HQB.out (Option.some.inj e))).trans HZ.out)
      have HRY := Lib.hid ((hg.block _ (lt_of_block HRY.out) (fun e => HYB.out (Option.some.inj e))).trans HRY.out)
      clear hg
      obtain ⟨x6, m6, f6, hx⟩ : ∃ x m f, Cod.rdNum 2 m5 f5 = (x, m, f) := ⟨_, _, _, rfl⟩
      have hc := U16_any lo B f5 m5 v5 HR.out
      have hs := Cod.rdNum_lt 2 m5 f5 HR.out.small
      rw [hx] at hc hs
      have HX6 := Lib.hid hx
      have HS6 := Lib.hid hs
      clear hx hs
      go_wp2_with fail
      refine hc.mono ?_
      rintro en v6 ⟨rfl, hR, hg⟩
      have HR := Lib.hid hR
      clear hc hR
      have HG := Lib.hid (grownBy_trans HG.out hg)
      have HZ := Lib.hid ((hg.block _ (lt_of_block HZ.out) (fun e => HQB.out (Option.some.inj e))).trans HZ.out)
      have HRY := Lib.hid ((hg.block _ (lt_of_block HRY.out) (fun e => HYB.out (Option.some.inj e))).trans HRY.out)
      clear hg
      obtain ⟨y0, y1, y2, y3, y4, y5, y6, y7, y8, y9, y10, y11, y12, y13, y14⟩ := rec_cell HRY.out
      have fy := rec_free HRY.out
      go_upto_region 7 with (fail)
      clear fy y0 y1 y2 y3 y4 y5 y6 y7 y8 y9 y10 y11 y12 y13 y14
      have hrY := HRY.out
      have hrY := rec_set (i := 4) (.int .u32 (x5 : Int)) hrY
      simp only [List.setIfInBounds_toArray, List.set_cons_zero, List.set_cons_succ] at hrY
      have hrY := rec_set (i := 5) (.int .u16 (x6 : Int)) hrY
      simp only [List.setIfInBounds_toArray, List.set_cons_zero, List.set_cons_succ] at hrY
      have hgs : v6.grownBy ((v6.setCell ⟨y, 4, none⟩ (.int .u32 (x5 : Int))).setCell ⟨y, 5, none⟩ (.int .u16 (x6 : Int))) (some y) := grownBy_trans (grownBy_setCell _ _ _ _) (grownBy_setCell _ _ _ _)
      obtain ⟨Za, hZ⟩ : ∃ Z, Z = ((v6.setCell ⟨y, 4, none⟩ (.int .u32 (x5 : Int))).setCell ⟨y, 5, none⟩ (.int .u16 (x6 : Int))) := ⟨_, rfl⟩
      rw [← hZ] at hgs hrY ⊢
      clear hZ
      have HRY := Lib.hid hrY
      have HZ := Lib.hid ((hgs.block _ (lt_of_block HZ.out) (fun e => HQY.out (Option.some.inj e))).trans HZ.out)
      have HR := Lib.hid (HR.out.grown hgs (fun g hg => by cases hg; exact ⟨fun h => by have := HLO.out _ h; have := HYB2.out; omega, fun e => HYB.out e⟩))
      have HG := Lib.hid (grown_two HG.out hgs HYW.out)
      clear hgs hrY
      obtain ⟨t7, m7, f7, hx⟩ : ∃ t m f, Cod.rdText 500 m6 f6 = (t, m, f) := ⟨_, _, _, rfl⟩
      have hc := Text_any lo B f6 m6 500 Za HR.out (by decide)
      have hs := Cod.rdText_len 500 m6 f6
      rw [hx] at hc hs
      have HX7 := Lib.hid hx
      have HS7 := Lib.hid (show t7.length ≤ 500 by have h2 := hs; dsimp only at h2; omega)
      clear hx hs
      go_wp2_with fail
      refine hc.mono ?_
      rintro en v7 ⟨z7, rfl, hO, hR, hg⟩
      have HR := Lib.hid hR
      clear hc hR
      have HO7_ne := Lib.hid (own_neB hO (lt_of_block HRY.out))
      have HO7_nq := Lib.hid (own_neB hO (lt_of_block HZ.out))
      have HO7 := Lib.hid (hO.from HG.out.size)
      have HG := Lib.hid (grownBy_trans HG.out hg)
      have HZ := Lib.hid ((hg.block _ (lt_of_block HZ.out) (fun e => HQB.out (Option.some.inj e))).trans HZ.out)
      have HRY := Lib.hid ((hg.block _ (lt_of_block HRY.out) (fun e => HYB.out (Option.some.inj e))).trans HRY.out)
      clear hg hO
      obtain ⟨pz7, cz7, hz⟩ := HO7.out.bts.slice
      subst hz
      obtain ⟨t8, m8, f8, hx⟩ : ∃ t m f, Cod.rdText 500 m7 f7 = (t, m, f) := ⟨_, _, _, rfl⟩
      have hc := Text_any lo B f7 m7 500 v7 HR.out (by decide)
      have hs := Cod.rdText_len 500 m7 f7
      rw [hx] at hc hs
      have HX8 := Lib.hid hx
      have HS8 := Lib.hid (show t8.length ≤ 500 by have h2 := hs; dsimp only at h2; omega)
      clear hx hs
      go_wp2_with fail
      refine hc.mono ?_
      rintro en v8 ⟨z8, rfl, hO, hR, hg⟩
      have HR := Lib.hid hR
      clear hc hR
      have HO8_ne := Lib.hid (own_neB hO (lt_of_block HRY.out))
      have HO8_nq := Lib.hid (own_neB hO (lt_of_block HZ.out))
      have HO8 := Lib.hid (hO.from HG.out.size)
      have HG := Lib.hid (grownBy_trans HG.out hg)
      have HZ := Lib.hid ((hg.block _ (lt_of_block HZ.out) (fun e => HQB.out (Option.some.inj e))).trans HZ.out)
      have HRY := Lib.hid ((hg.block _ (lt_of_block HRY.out) (fun e => HYB.out (Option.some.inj e))).trans HRY.out)
      have HO7 := Lib.hid (HO7.out.grown hg (own_neB HO7.out HBL.out))
      clear hg hO
      obtain ⟨pz8, cz8, hz⟩ := HO8.out.bts.slice
      subst hz
      obtain ⟨y0, y1, y2, y3, y4, y5, y6, y7, y8, y9, y10, y11, y12, y13, y14⟩ := rec_cell HRY.out
      have fy := rec_free HRY.out
      go_upto_region 17 with (fail)
      clear fy y0 y1 y2 y3 y4 y5 y6 y7 y8 y9 y10 y11 y12 y13 y14
      have hrY := HRY.out
      have hrY := rec_set (i := 6) (.slice pz7 t7.length cz7) hrY
      simp only [List.setIfInBounds_toArray, List.set_cons_zero, List.set_cons_succ] at hrY
      have hrY := rec_set (i := 7) (.slice pz8 t8.length cz8) hrY
      simp only [List.setIfInBounds_toArray, List.set_cons_zero, List.set_cons_succ] at hrY
      have hgs : v8.grownBy ((v8.setCell ⟨y, 6, none⟩ (.slice pz7 t7.length cz7)).setCell ⟨y, 7, none⟩ (.slice pz8 t8.length cz8)) (some y) := grownBy_trans (grownBy_setCell _ _ _ _) (grownBy_setCell _ _ _ _)
      obtain ⟨Zb, hZ⟩ : ∃ Z, Z = ((v8.setCell ⟨y, 6, none⟩ (.slice pz7 t7.length cz7)).setCell ⟨y, 7, none⟩ (.slice pz8 t8.length cz8)) := ⟨_, rfl⟩
      rw [← hZ] at hgs hrY ⊢
      clear hZ
      have HRY := Lib.hid hrY
      have HZ := Lib.hid ((hgs.block _ (lt_of_block HZ.out) (fun e => HQY.out (Option.some.inj e))).trans HZ.out)
      have HR := Lib.hid (HR.out.grown hgs (fun g hg => by cases hg; exact ⟨fun h => by have := HLO.out _ h; have := HYB2.out; omega, fun e => HYB.out e⟩))
      have HO7 := Lib.hid (HO7.out.grown hgs HO7_ne.out)
      have HO8 := Lib.hid (HO8.out.grown hgs HO8_ne.out)
      have HG := Lib.hid (grown_two HG.out hgs HYW.out)
      clear hgs hrY
      go_step
      refine wpList_load_rec rfl (.tmp 3) rfl y rfl _ HRY.out rfl ?_
      refine wpList_store_rec rfl (.tmp 2) (.tmp 71) rfl Q rfl _ rfl _ HZ.out rfl rfl (by simp [Value.oneCell']) ?_
      intro U hrU hgU
      have HST : Hid (_ ∧ _) := ⟨hrU, hgU⟩
      clear hrU hgU
      go_wp2_with fail
      refine bodyPost_ret (v := .agg #[.int .i64 1, .int .u64 (x2 : Int), .int .u32 (x3 : Int), .int .u64 0, .int .u32 (x5 : Int), .int .u16 (x6 : Int), .slice pz7 t7.length cz7, .slice pz8 t8.length cz8, .slice none 0 0, .int .u64 0, .int .u64 0, .bool false, .int .u64 0, .slice none 0 0, .slice none 0 0]) (results_cell_row Tryz.results55 _ _ Q _ _ _ _ rfl HST.out.1 Tryz.underlying40 rfl (rec_info rfl)) rfl ?_
      refine ⟨⟨⟨1, x2, x3, 0, x5, x6, t7, t8, [], 0, 0, false, 0, [], []⟩, (.slice pz7 t7.length cz7), (.slice pz8 t8.length cz8), (.slice none 0 0), (.slice none 0 0), (.slice none 0 0), _, rfl, ⟨(HO7.out.grown HST.out.2 HO7_nq.out), (HO8.out.grown HST.out.2 HO8_nq.out), own_nil _ _, Chr.own_nil _ _, Dir.own_nil _ _, ?_⟩, Lr.took_write HH.out HX5.out HX6.out HX7.out HX8.out, ?_⟩, grown_two HG.out HST.out.2 (Nat.le_of_eq HQ.out.symm)⟩
      · exact ⟨by dsimp only; omega, Nat.lt_of_lt_of_le HS2.out (by decide), Nat.lt_of_lt_of_le HS3.out (by decide), (show 0 < 18446744073709551616 by decide), Nat.lt_of_lt_of_le HS5.out (by decide), Nat.lt_of_lt_of_le HS6.out (by decide), HO7.out.small, HO8.out.small, (by simp), (show 0 < 18446744073709551616 by decide), (show 0 < 18446744073709551616 by decide), (show 0 < 18446744073709551616 by decide), (by simp), (by simp)⟩
      · exact ⟨Nat.le_trans HS7.out (by decide), Nat.le_trans HS8.out (by decide), (by simp), (by simp), (by simp)⟩
  have k1 : ((x4 : Int) == 1) = false := by rw [beq_eq_false_iff_ne]; omega
  by_cases h2 : x4 = 2
  · as_aux_lemma =>
      subst h2
      rw [show ((2 : Nat) : Int) = 2 from rfl] at HRY
      obtain ⟨y0, y1, y2, y3, y4, y5, y6, y7, y8, y9, y10, y11, y12, y13, y14⟩ := rec_cell HRY.out
      go_upto_region 9 with (fail)
      clear y0 y1 y2 y3 y4 y5 y6 y7 y8 y9 y10 y11 y12 y13 y14
      obtain ⟨x5, m5, f5, hx⟩ : ∃ x m f, Cod.rdNum 8 m4 f4 = (x, m, f) := ⟨_, _, _, rfl⟩
      have hc := U64_any lo B f4 m4 Y HR.out
      have hs := Cod.rdNum_lt 8 m4 f4 HR.out.small
      rw [hx] at hc hs
      have HX5 := Lib.hid hx
      have HS5 := Lib.hid hs
      clear hx hs
      go_wp2_with fail
      refine hc.mono ?_
      rintro en v5 ⟨rfl, hR, hg⟩
      have HR := Lib.hid hR
      clear hc hR
      have HG := Lib.hid (grownBy_trans HG.out hg)
      have HZ := Lib.hid ((hg.block _ (lt_of_block HZ.out) (fun e => HQB.out (Option.some.inj e))).trans HZ.out)
      have HRY := Lib.hid ((hg.block _ (lt_of_block HRY.out) (fun e => HYB.out (Option.some.inj e))).trans HRY.out)
      clear hg
      obtain ⟨x6, m6, f6, hx⟩ : ∃ x m f, Cod.rdNum 8 m5 f5 = (x, m, f) := ⟨_, _, _, rfl⟩
      have hc := U64_any lo B f5 m5 v5 HR.out
      have hs := Cod.rdNum_lt 8 m5 f5 HR.out.small
      rw [hx] at hc hs
      have HX6 := Lib.hid hx
      have HS6 := Lib.hid hs
      clear hx hs
      go_wp2_with fail
      refine hc.mono ?_
      rintro en v6 ⟨rfl, hR, hg⟩
      have HR := Lib.hid hR
      clear hc hR
      have HG := Lib.hid (grownBy_trans HG.out hg)
      have HZ := Lib.hid ((hg.block _ (lt_of_block HZ.out) (fun e => HQB.out (Option.some.inj e))).trans HZ.out)
      have HRY := Lib.hid ((hg.block _ (lt_of_block HRY.out) (fun e => HYB.out (Option.some.inj e))).trans HRY.out)
      clear hg
      obtain ⟨x7, m7, f7, hx⟩ : ∃ x m f, Cod.rdNum 8 m6 f6 = (x, m, f) := ⟨_, _, _, rfl⟩
      have hc := U64_any lo B f6 m6 v6 HR.out
      have hs := Cod.rdNum_lt 8 m6 f6 HR.out.small
      rw [hx] at hc hs
      have HX7 := Lib.hid hx
      have HS7 := Lib.hid hs
      clear hx hs
      go_wp2_with fail
      refine hc.mono ?_
      rintro en v7 ⟨rfl, hR, hg⟩
      have HR := Lib.hid hR
      clear hc hR
      have HG := Lib.hid (grownBy_trans HG.out hg)
      have HZ := Lib.hid ((hg.block _ (lt_of_block HZ.out) (fun e => HQB.out (Option.some.inj e))).trans HZ.out)
      have HRY := Lib.hid ((hg.block _ (lt_of_block HRY.out) (fun e => HYB.out (Option.some.inj e))).trans HRY.out)
      clear hg
      obtain ⟨y0, y1, y2, y3, y4, y5, y6, y7, y8, y9, y10, y11, y12, y13, y14⟩ := rec_cell HRY.out
      have fy := rec_free HRY.out
      go_upto_region 10 with (fail)
      clear fy y0 y1 y2 y3 y4 y5 y6 y7 y8 y9 y10 y11 y12 y13 y14
      have hrY := HRY.out
      have hrY := rec_set (i := 3) (.int .u64 (x5 : Int)) hrY
      simp only [List.setIfInBounds_toArray, List.set_cons_zero, List.set_cons_succ] at hrY
      have hrY := rec_set (i := 9) (.int .u64 (x6 : Int)) hrY
      simp only [List.setIfInBounds_toArray, List.set_cons_zero, List.set_cons_succ] at hrY
      have hrY := rec_set (i := 10) (.int .u64 (x7 : Int)) hrY
      simp only [List.setIfInBounds_toArray, List.set_cons_zero, List.set_cons_succ] at hrY
      have hgs : v7.grownBy (((v7.setCell ⟨y, 3, none⟩ (.int .u64 (x5 : Int))).setCell ⟨y, 9, none⟩ (.int .u64 (x6 : Int))).setCell ⟨y, 10, none⟩ (.int .u64 (x7 : Int))) (some y) := grownBy_trans (grownBy_trans (grownBy_setCell _ _ _ _) (grownBy_setCell _ _ _ _)) (grownBy_setCell _ _ _ _)
      obtain ⟨Za, hZ⟩ : ∃ Z, Z = (((v7.setCell ⟨y, 3, none⟩ (.int .u64 (x5 : Int))).setCell ⟨y, 9, none⟩ (.int .u64 (x6 : Int))).setCell ⟨y, 10, none⟩ (.int .u64 (x7 : Int))) := ⟨_, rfl⟩
      rw [← hZ] at hgs hrY ⊢
      clear hZ
      have HRY := Lib.hid hrY
      have HZ := Lib.hid ((hgs.block _ (lt_of_block HZ.out) (fun e => HQY.out (Option.some.inj e))).trans HZ.out)
      have HR := Lib.hid (HR.out.grown hgs (fun g hg => by cases hg; exact ⟨fun h => by have := HLO.out _ h; have := HYB2.out; omega, fun e => HYB.out e⟩))
      have HG := Lib.hid (grown_two HG.out hgs HYW.out)
      clear hgs hrY
      obtain ⟨x8, m8, f8, hx⟩ : ∃ x m f, Cod.rdNum 1 m7 f7 = (x, m, f) := ⟨_, _, _, rfl⟩
      have hc := U8_any lo B f7 m7 Za HR.out
      have hs := Cod.rdNum_lt 1 m7 f7 HR.out.small
      rw [hx] at hc hs
      have HX8 := Lib.hid hx
      have HS8 := Lib.hid hs
      clear hx hs
      go_wp2_with fail
      refine hc.mono ?_
      rintro en v8 ⟨rfl, hR, hg⟩
      have HR := Lib.hid hR
      clear hc hR
      have HG := Lib.hid (grownBy_trans HG.out hg)
      have HZ := Lib.hid ((hg.block _ (lt_of_block HZ.out) (fun e => HQB.out (Option.some.inj e))).trans HZ.out)
      have HRY := Lib.hid ((hg.block _ (lt_of_block HRY.out) (fun e => HYB.out (Option.some.inj e))).trans HRY.out)
      clear hg
      have hcb : ((x8 : Int) == 1) = decide (x8 = 1) := eqI (b := 1)
      generalize hcd : decide (x8 = 1) = cb at *
      have HCD := Lib.hid hcd
      clear hcd
      obtain ⟨t9, m9, f9, hx⟩ : ∃ t m f, Cod.rdText 64 m8 f8 = (t, m, f) := ⟨_, _, _, rfl⟩
      have hc := Text_any lo B f8 m8 64 v8 HR.out (by decide)
      have hs := Cod.rdText_len 64 m8 f8
      rw [hx] at hc hs
      have HX9 := Lib.hid hx
      have HS9 := Lib.hid (show t9.length ≤ 64 by have h2 := hs; dsimp only at h2; omega)
      clear hx hs
      go_wp2_with fail
      refine hc.mono ?_
      rintro en v9 ⟨z9, rfl, hO, hR, hg⟩
      have HR := Lib.hid hR
      clear hc hR
      have HO9_ne := Lib.hid (own_neB hO (lt_of_block HRY.out))
      have HO9_nq := Lib.hid (own_neB hO (lt_of_block HZ.out))
      have HO9 := Lib.hid (hO.from HG.out.size)
      have HG := Lib.hid (grownBy_trans HG.out hg)
      have HZ := Lib.hid ((hg.block _ (lt_of_block HZ.out) (fun e => HQB.out (Option.some.inj e))).trans HZ.out)
      have HRY := Lib.hid ((hg.block _ (lt_of_block HRY.out) (fun e => HYB.out (Option.some.inj e))).trans HRY.out)
      clear hg hO
      obtain ⟨pz9, cz9, hz⟩ := HO9.out.bts.slice
      subst hz
      obtain ⟨y0, y1, y2, y3, y4, y5, y6, y7, y8, y9, y10, y11, y12, y13, y14⟩ := rec_cell HRY.out
      have fy := rec_free HRY.out
      go_upto_region 17 with (fail)
      clear fy y0 y1 y2 y3 y4 y5 y6 y7 y8 y9 y10 y11 y12 y13 y14
      have hrY := HRY.out
      have hrY := rec_set (i := 11) (.bool cb) hrY
      simp only [List.setIfInBounds_toArray, List.set_cons_zero, List.set_cons_succ] at hrY
      have hrY := rec_set (i := 8) (.slice pz9 t9.length cz9) hrY
      simp only [List.setIfInBounds_toArray, List.set_cons_zero, List.set_cons_succ] at hrY
      have hgs : v9.grownBy ((v9.setCell ⟨y, 11, none⟩ (.bool cb)).setCell ⟨y, 8, none⟩ (.slice pz9 t9.length cz9)) (some y) := grownBy_trans (grownBy_setCell _ _ _ _) (grownBy_setCell _ _ _ _)
      obtain ⟨Zb, hZ⟩ : ∃ Z, Z = ((v9.setCell ⟨y, 11, none⟩ (.bool cb)).setCell ⟨y, 8, none⟩ (.slice pz9 t9.length cz9)) := ⟨_, rfl⟩
      rw [← hZ] at hgs hrY ⊢
      clear hZ
      have HRY := Lib.hid hrY
      have HZ := Lib.hid ((hgs.block _ (lt_of_block HZ.out) (fun e => HQY.out (Option.some.inj e))).trans HZ.out)
      have HR := Lib.hid (HR.out.grown hgs (fun g hg => by cases hg; exact ⟨fun h => by have := HLO.out _ h; have := HYB2.out; omega, fun e => HYB.out e⟩))
      have HO9 := Lib.hid (HO9.out.grown hgs HO9_ne.out)
      have HG := Lib.hid (grown_two HG.out hgs HYW.out)
      clear hgs hrY
      clear hcb
      go_step
      refine wpList_load_rec rfl (.tmp 3) rfl y rfl _ HRY.out rfl ?_
      refine wpList_store_rec rfl (.tmp 2) (.tmp 71) rfl Q rfl _ rfl _ HZ.out rfl rfl (by simp [Value.oneCell']) ?_
      intro U hrU hgU
      have HST : Hid (_ ∧ _) := ⟨hrU, hgU⟩
      clear hrU hgU
      go_wp2_with fail
      refine bodyPost_ret (v := .agg #[.int .i64 2, .int .u64 (x2 : Int), .int .u32 (x3 : Int), .int .u64 (x5 : Int), .int .u32 0, .int .u16 0, .slice none 0 0, .slice none 0 0, .slice pz9 t9.length cz9, .int .u64 (x6 : Int), .int .u64 (x7 : Int), .bool cb, .int .u64 0, .slice none 0 0, .slice none 0 0]) (results_cell_row Tryz.results55 _ _ Q _ _ _ _ rfl HST.out.1 Tryz.underlying40 rfl (rec_info rfl)) rfl ?_
      refine ⟨⟨⟨2, x2, x3, x5, 0, 0, [], [], t9, x6, x7, cb, 0, [], []⟩, (.slice none 0 0), (.slice none 0 0), (.slice pz9 t9.length cz9), (.slice none 0 0), (.slice none 0 0), _, rfl, ⟨own_nil _ _, own_nil _ _, (HO9.out.grown HST.out.2 HO9_nq.out), Chr.own_nil _ _, Dir.own_nil _ _, ?_⟩, (by rw [← HCD.out]; exact Lr.took_end HH.out HX5.out HX6.out HX7.out HX8.out HX9.out), ?_⟩, grown_two HG.out HST.out.2 (Nat.le_of_eq HQ.out.symm)⟩
      · exact ⟨by dsimp only; omega, Nat.lt_of_lt_of_le HS2.out (by decide), Nat.lt_of_lt_of_le HS3.out (by decide), Nat.lt_of_lt_of_le HS5.out (by decide), (show 0 < 4294967296 by decide), (show 0 < 65536 by decide), (by simp), (by simp), HO9.out.small, Nat.lt_of_lt_of_le HS6.out (by decide), Nat.lt_of_lt_of_le HS7.out (by decide), (show 0 < 18446744073709551616 by decide), (by simp), (by simp)⟩
      · exact ⟨(by simp), (by simp), Nat.le_trans HS9.out (by decide), (by simp), (by simp)⟩
  have k2 : ((x4 : Int) == 2) = false := by rw [beq_eq_false_iff_ne]; omega
  by_cases h3 : x4 = 3
  · as_aux_lemma =>
      subst h3
      rw [show ((3 : Nat) : Int) = 3 from rfl] at HRY
      obtain ⟨y0, y1, y2, y3, y4, y5, y6, y7, y8, y9, y10, y11, y12, y13, y14⟩ := rec_cell HRY.out
      go_upto_region 12 with (fail)
      clear y0 y1 y2 y3 y4 y5 y6 y7 y8 y9 y10 y11 y12 y13 y14
      obtain ⟨x5, m5, f5, hx⟩ : ∃ x m f, Cod.rdNum 8 m4 f4 = (x, m, f) := ⟨_, _, _, rfl⟩
      have hc := U64_any lo B f4 m4 Y HR.out
      have hs := Cod.rdNum_lt 8 m4 f4 HR.out.small
      rw [hx] at hc hs
      have HX5 := Lib.hid hx
      have HS5 := Lib.hid hs
      clear hx hs
      go_wp2_with fail
      refine hc.mono ?_
      rintro en v5 ⟨rfl, hR, hg⟩
      have HR := Lib.hid hR
      clear hc hR
      have HG := Lib.hid (grownBy_trans HG.out hg)
      have HZ := Lib.hid ((hg.block _ (lt_of_block HZ.out) (fun e => HQB.out (Option.some.inj e))).trans HZ.out)
      have HRY := Lib.hid ((hg.block _ (lt_of_block HRY.out) (fun e => HYB.out (Option.some.inj e))).trans HRY.out)
      clear hg
      obtain ⟨x6, m6, f6, hx⟩ : ∃ x m f, Cod.rdNum 8 m5 f5 = (x, m, f) := ⟨_, _, _, rfl⟩
      have hc := U64_any lo B f5 m5 v5 HR.out
      have hs := Cod.rdNum_lt 8 m5 f5 HR.out.small
      rw [hx] at hc hs
      have HX6 := Lib.hid hx
      have HS6 := Lib.hid hs
      clear hx hs
      go_wp2_with fail
      refine hc.mono ?_
      rintro en v6 ⟨rfl, hR, hg⟩
      have HR := Lib.hid hR
      clear hc hR
      have HG := Lib.hid (grownBy_trans HG.out hg)
      have HZ := Lib.hid ((hg.block _ (lt_of_block HZ.out) (fun e => HQB.out (Option.some.inj e))).trans HZ.out)
      have HRY := Lib.hid ((hg.block _ (lt_of_block HRY.out) (fun e => HYB.out (Option.some.inj e))).trans HRY.out)
      clear hg
      obtain ⟨y0, y1, y2, y3, y4, y5, y6, y7, y8, y9, y10, y11, y12, y13, y14⟩ := rec_cell HRY.out
      have fy := rec_free HRY.out
      go_upto_region 17 with (fail)
      clear fy y0 y1 y2 y3 y4 y5 y6 y7 y8 y9 y10 y11 y12 y13 y14
      have hrY := HRY.out
      have hrY := rec_set (i := 3) (.int .u64 (x5 : Int)) hrY
      simp only [List.setIfInBounds_toArray, List.set_cons_zero, List.set_cons_succ] at hrY
      have hrY := rec_set (i := 12) (.int .u64 (x6 : Int)) hrY
      simp only [List.setIfInBounds_toArray, List.set_cons_zero, List.set_cons_succ] at hrY
      have hgs : v6.grownBy ((v6.setCell ⟨y, 3, none⟩ (.int .u64 (x5 : Int))).setCell ⟨y, 12, none⟩ (.int .u64 (x6 : Int))) (some y) := grownBy_trans (grownBy_setCell _ _ _ _) (grownBy_setCell _ _ _ _)
      obtain ⟨Za, hZ⟩ : ∃ Z, Z = ((v6.setCell ⟨y, 3, none⟩ (.int .u64 (x5 : Int))).setCell ⟨y, 12, none⟩ (.int .u64 (x6 : Int))) := ⟨_, rfl⟩
      rw [← hZ] at hgs hrY ⊢
      clear hZ
      have HRY := Lib.hid hrY
      have HZ := Lib.hid ((hgs.block _ (lt_of_block HZ.out) (fun e => HQY.out (Option.some.inj e))).trans HZ.out)
      have HR := Lib.hid (HR.out.grown hgs (fun g hg => by cases hg; exact ⟨fun h => by have := HLO.out _ h; have := HYB2.out; omega, fun e => HYB.out e⟩))
      have HG := Lib.hid (grown_two HG.out hgs HYW.out)
      clear hgs hrY
      go_step
      refine wpList_load_rec rfl (.tmp 3) rfl y rfl _ HRY.out rfl ?_
      refine wpList_store_rec rfl (.tmp 2) (.tmp 71) rfl Q rfl _ rfl _ HZ.out rfl rfl (by simp [Value.oneCell']) ?_
      intro U hrU hgU
      have HST : Hid (_ ∧ _) := ⟨hrU, hgU⟩
      clear hrU hgU
      go_wp2_with fail
      refine bodyPost_ret (v := .agg #[.int .i64 3, .int .u64 (x2 : Int), .int .u32 (x3 : Int), .int .u64 (x5 : Int), .int .u32 0, .int .u16 0, .slice none 0 0, .slice none 0 0, .slice none 0 0, .int .u64 0, .int .u64 0, .bool false, .int .u64 (x6 : Int), .slice none 0 0, .slice none 0 0]) (results_cell_row Tryz.results55 _ _ Q _ _ _ _ rfl HST.out.1 Tryz.underlying40 rfl (rec_info rfl)) rfl ?_
      refine ⟨⟨⟨3, x2, x3, x5, 0, 0, [], [], [], 0, 0, false, x6, [], []⟩, (.slice none 0 0), (.slice none 0 0), (.slice none 0 0), (.slice none 0 0), (.slice none 0 0), _, rfl, ⟨own_nil _ _, own_nil _ _, own_nil _ _, Chr.own_nil _ _, Dir.own_nil _ _, ?_⟩, Lr.took_commit HH.out HX5.out HX6.out, ?_⟩, grown_two HG.out HST.out.2 (Nat.le_of_eq HQ.out.symm)⟩
      · exact ⟨by dsimp only; omega, Nat.lt_of_lt_of_le HS2.out (by decide), Nat.lt_of_lt_of_le HS3.out (by decide), Nat.lt_of_lt_of_le HS5.out (by decide), (show 0 < 4294967296 by decide), (show 0 < 65536 by decide), (by simp), (by simp), (by simp), (show 0 < 18446744073709551616 by decide), (show 0 < 18446744073709551616 by decide), Nat.lt_of_lt_of_le HS6.out (by decide), (by simp), (by simp)⟩
      · exact ⟨(by simp), (by simp), (by simp), (by simp), (by simp)⟩
  have k3 : ((x4 : Int) == 3) = false := by rw [beq_eq_false_iff_ne]; omega
  by_cases h4 : x4 = 4
  · as_aux_lemma =>
      subst h4
      rw [show ((4 : Nat) : Int) = 4 from rfl] at HRY
      obtain ⟨y0, y1, y2, y3, y4, y5, y6, y7, y8, y9, y10, y11, y12, y13, y14⟩ := rec_cell HRY.out
      go_upto_region 14 with (fail)
      clear y0 y1 y2 y3 y4 y5 y6 y7 y8 y9 y10 y11 y12 y13 y14
      obtain ⟨x5, m5, f5, hx⟩ : ∃ x m f, Cod.rdNum 8 m4 f4 = (x, m, f) := ⟨_, _, _, rfl⟩
      have hc := U64_any lo B f4 m4 Y HR.out
      have hs := Cod.rdNum_lt 8 m4 f4 HR.out.small
      rw [hx] at hc hs
      have HX5 := Lib.hid hx
      have HS5 := Lib.hid hs
      clear hx hs
      go_wp2_with fail
      refine hc.mono ?_
      rintro en v5 ⟨rfl, hR, hg⟩
      have HR := Lib.hid hR
      clear hc hR
      have HG := Lib.hid (grownBy_trans HG.out hg)
      have HZ := Lib.hid ((hg.block _ (lt_of_block HZ.out) (fun e => HQB.out (Option.some.inj e))).trans HZ.out)
      have HRY := Lib.hid ((hg.block _ (lt_of_block HRY.out) (fun e => HYB.out (Option.some.inj e))).trans HRY.out)
      clear hg
      obtain ⟨y0, y1, y2, y3, y4, y5, y6, y7, y8, y9, y10, y11, y12, y13, y14⟩ := rec_cell HRY.out
      have fy := rec_free HRY.out
      go_upto_region 17 with (fail)
      clear fy y0 y1 y2 y3 y4 y5 y6 y7 y8 y9 y10 y11 y12 y13 y14
      have hrY := HRY.out
      have hrY := rec_set (i := 3) (.int .u64 (x5 : Int)) hrY
      simp only [List.setIfInBounds_toArray, List.set_cons_zero, List.set_cons_succ] at hrY
      have hgs : v5.grownBy (v5.setCell ⟨y, 3, none⟩ (.int .u64 (x5 : Int))) (some y) := grownBy_setCell _ _ _ _
      obtain ⟨Za, hZ⟩ : ∃ Z, Z = (v5.setCell ⟨y, 3, none⟩ (.int .u64 (x5 : Int))) := ⟨_, rfl⟩
      rw [← hZ] at hgs hrY ⊢
      clear hZ
      have HRY := Lib.hid hrY
      have HZ := Lib.hid ((hgs.block _ (lt_of_block HZ.out) (fun e => HQY.out (Option.some.inj e))).trans HZ.out)
      have HR := Lib.hid (HR.out.grown hgs (fun g hg => by cases hg; exact ⟨fun h => by have := HLO.out _ h; have := HYB2.out; omega, fun e => HYB.out e⟩))
      have HG := Lib.hid (grown_two HG.out hgs HYW.out)
      clear hgs hrY
      go_step
      refine wpList_load_rec rfl (.tmp 3) rfl y rfl _ HRY.out rfl ?_
      refine wpList_store_rec rfl (.tmp 2) (.tmp 71) rfl Q rfl _ rfl _ HZ.out rfl rfl (by simp [Value.oneCell']) ?_
      intro U hrU hgU
      have HST : Hid (_ ∧ _) := ⟨hrU, hgU⟩
      clear hrU hgU
      go_wp2_with fail
      refine bodyPost_ret (v := .agg #[.int .i64 4, .int .u64 (x2 : Int), .int .u32 (x3 : Int), .int .u64 (x5 : Int), .int .u32 0, .int .u16 0, .slice none 0 0, .slice none 0 0, .slice none 0 0, .int .u64 0, .int .u64 0, .bool false, .int .u64 0, .slice none 0 0, .slice none 0 0]) (results_cell_row Tryz.results55 _ _ Q _ _ _ _ rfl HST.out.1 Tryz.underlying40 rfl (rec_info rfl)) rfl ?_
      refine ⟨⟨⟨4, x2, x3, x5, 0, 0, [], [], [], 0, 0, false, 0, [], []⟩, (.slice none 0 0), (.slice none 0 0), (.slice none 0 0), (.slice none 0 0), (.slice none 0 0), _, rfl, ⟨own_nil _ _, own_nil _ _, own_nil _ _, Chr.own_nil _ _, Dir.own_nil _ _, ?_⟩, Lr.took_done HH.out HX5.out, ?_⟩, grown_two HG.out HST.out.2 (Nat.le_of_eq HQ.out.symm)⟩
      · exact ⟨by dsimp only; omega, Nat.lt_of_lt_of_le HS2.out (by decide), Nat.lt_of_lt_of_le HS3.out (by decide), Nat.lt_of_lt_of_le HS5.out (by decide), (show 0 < 4294967296 by decide), (show 0 < 65536 by decide), (by simp), (by simp), (by simp), (show 0 < 18446744073709551616 by decide), (show 0 < 18446744073709551616 by decide), (show 0 < 18446744073709551616 by decide), (by simp), (by simp)⟩
      · exact ⟨(by simp), (by simp), (by simp), (by simp), (by simp)⟩
  have k4 : ((x4 : Int) == 4) = false := by rw [beq_eq_false_iff_ne]; omega
  by_cases h5 : x4 = 5
  · as_aux_lemma =>
      subst h5
      rw [show ((5 : Nat) : Int) = 5 from rfl] at HRY
      obtain ⟨y0, y1, y2, y3, y4, y5, y6, y7, y8, y9, y10, y11, y12, y13, y14⟩ := rec_cell HRY.out
      go_upto_region 16 with (fail)
      clear y0 y1 y2 y3 y4 y5 y6 y7 y8 y9 y10 y11 y12 y13 y14
      have hc := Chr.take_any lo B f4 m4 Y HR.out HLO.out
      go_wp2_with fail
      refine hc.mono ?_
      rintro en v5 ⟨z5, rfl, ht⟩
      obtain ⟨n5, k5, l5, g5, C5, m5, f5, hu, hx, hn, hm, hO, hbd, hR, hg⟩ := ht
      have HR := Lib.hid hR
      clear hc hR
      have HO5_ne := Lib.hid (Chr.own_neB hO (lt_of_block HRY.out))
      have HO5_nq := Lib.hid (Chr.own_neB hO (lt_of_block HZ.out))
      have HO5 := Lib.hid (hO.from HG.out.size)
      have HT5 : Hid (_ ∧ _ ∧ _ ∧ _ ∧ _) := ⟨hu, hx, hn, hm, hbd⟩
      have HG := Lib.hid (grownBy_trans HG.out hg)
      have HZ := Lib.hid ((hg.block _ (lt_of_block HZ.out) (fun e => HQB.out (Option.some.inj e))).trans HZ.out)
      have HRY := Lib.hid ((hg.block _ (lt_of_block HRY.out) (fun e => HYB.out (Option.some.inj e))).trans HRY.out)
      clear hg hO hu hx hn hm hbd
      obtain ⟨pz5, cz5, hz⟩ := HO5.out.bts.slice
      subst hz
      have hc := Dir.take_any lo B f5 m5 v5 HR.out HLO.out
      go_wp2_with fail
      refine hc.mono ?_
      rintro en v6 ⟨z6, rfl, ht⟩
      obtain ⟨n6, k6, l6, g6, C6, m6, f6, hu, hx, hn, hm, hO, hbd, hR, hg⟩ := ht
      have HR := Lib.hid hR
      clear hc hR
      have HO6_ne := Lib.hid (Dir.own_neB hO (lt_of_block HRY.out))
      have HO6_nq := Lib.hid (Dir.own_neB hO (lt_of_block HZ.out))
      have HO6 := Lib.hid (hO.from HG.out.size)
      have HT6 : Hid (_ ∧ _ ∧ _ ∧ _ ∧ _) := ⟨hu, hx, hn, hm, hbd⟩
      have HG := Lib.hid (grownBy_trans HG.out hg)
      have HZ := Lib.hid ((hg.block _ (lt_of_block HZ.out) (fun e => HQB.out (Option.some.inj e))).trans HZ.out)
      have HRY := Lib.hid ((hg.block _ (lt_of_block HRY.out) (fun e => HYB.out (Option.some.inj e))).trans HRY.out)
      have HO5 := Lib.hid (HO5.out.grown hg (Chr.own_neB HO5.out HBL.out))
      clear hg hO hu hx hn hm hbd
      obtain ⟨pz6, cz6, hz⟩ := HO6.out.bts.slice
      subst hz
      obtain ⟨y0, y1, y2, y3, y4, y5, y6, y7, y8, y9, y10, y11, y12, y13, y14⟩ := rec_cell HRY.out
      have fy := rec_free HRY.out
      go_upto_region 17 with (fail)
      clear fy y0 y1 y2 y3 y4 y5 y6 y7 y8 y9 y10 y11 y12 y13 y14
      have hrY := HRY.out
      have hrY := rec_set (i := 13) (.slice pz5 C5.length cz5) hrY
      simp only [List.setIfInBounds_toArray, List.set_cons_zero, List.set_cons_succ] at hrY
      have hrY := rec_set (i := 14) (.slice pz6 C6.length cz6) hrY
      simp only [List.setIfInBounds_toArray, List.set_cons_zero, List.set_cons_succ] at hrY
      have hgs : v6.grownBy ((v6.setCell ⟨y, 13, none⟩ (.slice pz5 C5.length cz5)).setCell ⟨y, 14, none⟩ (.slice pz6 C6.length cz6)) (some y) := grownBy_trans (grownBy_setCell _ _ _ _) (grownBy_setCell _ _ _ _)
      obtain ⟨Za, hZ⟩ : ∃ Z, Z = ((v6.setCell ⟨y, 13, none⟩ (.slice pz5 C5.length cz5)).setCell ⟨y, 14, none⟩ (.slice pz6 C6.length cz6)) := ⟨_, rfl⟩
      rw [← hZ] at hgs hrY ⊢
      clear hZ
      have HRY := Lib.hid hrY
      have HZ := Lib.hid ((hgs.block _ (lt_of_block HZ.out) (fun e => HQY.out (Option.some.inj e))).trans HZ.out)
      have HR := Lib.hid (HR.out.grown hgs (fun g hg => by cases hg; exact ⟨fun h => by have := HLO.out _ h; have := HYB2.out; omega, fun e => HYB.out e⟩))
      have HO5 := Lib.hid (HO5.out.grown hgs HO5_ne.out)
      have HO6 := Lib.hid (HO6.out.grown hgs HO6_ne.out)
      have HG := Lib.hid (grown_two HG.out hgs HYW.out)
      clear hgs hrY
      go_step
      refine wpList_load_rec rfl (.tmp 3) rfl y rfl _ HRY.out rfl ?_
      refine wpList_store_rec rfl (.tmp 2) (.tmp 71) rfl Q rfl _ rfl _ HZ.out rfl rfl (by simp [Value.oneCell']) ?_
      intro U hrU hgU
      have HST : Hid (_ ∧ _) := ⟨hrU, hgU⟩
      clear hrU hgU
      go_wp2_with fail
      refine bodyPost_ret (v := .agg #[.int .i64 5, .int .u64 (x2 : Int), .int .u32 (x3 : Int), .int .u64 0, .int .u32 0, .int .u16 0, .slice none 0 0, .slice none 0 0, .slice none 0 0, .int .u64 0, .int .u64 0, .bool false, .int .u64 0, .slice pz5 C5.length cz5, .slice pz6 C6.length cz6]) (results_cell_row Tryz.results55 _ _ Q _ _ _ _ rfl HST.out.1 Tryz.underlying40 rfl (rec_info rfl)) rfl ?_
      refine ⟨⟨⟨5, x2, x3, 0, 0, 0, [], [], [], 0, 0, false, 0, C5, C6⟩, (.slice none 0 0), (.slice none 0 0), (.slice none 0 0), (.slice pz5 C5.length cz5), (.slice pz6 C6.length cz6), _, rfl, ⟨own_nil _ _, own_nil _ _, own_nil _ _, (HO5.out.grown HST.out.2 HO5_nq.out), (HO6.out.grown HST.out.2 HO6_nq.out), ?_⟩, Lr.took_point HH.out HT5.out.1 HT5.out.2.1 HT5.out.2.2.1 HT6.out.1 HT6.out.2.1 HT6.out.2.2.1, ?_⟩, grown_two HG.out HST.out.2 (Nat.le_of_eq HQ.out.symm)⟩
      · exact ⟨by dsimp only; omega, Nat.lt_of_lt_of_le HS2.out (by decide), Nat.lt_of_lt_of_le HS3.out (by decide), (show 0 < 18446744073709551616 by decide), (show 0 < 4294967296 by decide), (show 0 < 65536 by decide), (by simp), (by simp), (by simp), (show 0 < 18446744073709551616 by decide), (show 0 < 18446744073709551616 by decide), (show 0 < 18446744073709551616 by decide), (fun c hc => by have h := HT5.out.2.2.2.2 c hc; exact ⟨Nat.lt_of_lt_of_le h.1 (by decide), Nat.lt_of_lt_of_le h.2.1 (by decide), Nat.lt_of_lt_of_le h.2.2 (by decide)⟩), (fun c hc => by have h := HT6.out.2.2.2.2 c hc; exact ⟨Nat.lt_of_lt_of_le h.1 (by decide), Nat.lt_of_lt_of_le h.2 (by decide)⟩)⟩
      · exact ⟨(by simp), (by simp), (by simp), (by have h1 := HT5.out.2.1; have h2 := HT5.out.2.2.2.1; have h3 := Lr.rdChs_length k5 l5 g5; rw [h1] at h3; dsimp only at h3 ⊢; omega), (by have h1 := HT6.out.2.1; have h2 := HT6.out.2.2.2.1; have h3 := Lr.rdDis_length k6 l6 g6; rw [h1] at h3; dsimp only at h3 ⊢; omega)⟩
  have k5 : ((x4 : Int) == 5) = false := by rw [beq_eq_false_iff_ne]; omega
  obtain ⟨y0, y1, y2, y3, y4, y5, y6, y7, y8, y9, y10, y11, y12, y13, y14⟩ := rec_cell HRY.out
  go_upto_region 17 with (fail)
  clear y0 y1 y2 y3 y4 y5 y6 y7 y8 y9 y10 y11 y12 y13 y14
  go_step
  refine wpList_load_rec rfl (.tmp 3) rfl y rfl _ HRY.out rfl ?_
  refine wpList_store_rec rfl (.tmp 2) (.tmp 71) rfl Q rfl _ rfl _ HZ.out rfl rfl (by simp [Value.oneCell']) ?_
  intro U hrU hgU
  have HST : Hid (_ ∧ _) := ⟨hrU, hgU⟩
  clear hrU hgU
  go_wp2_with fail
  refine bodyPost_ret (v := .agg #[.int .i64 (x4 : Int), .int .u64 (x2 : Int), .int .u32 (x3 : Int), .int .u64 0, .int .u32 0, .int .u16 0, .slice none 0 0, .slice none 0 0, .slice none 0 0, .int .u64 0, .int .u64 0, .bool false, .int .u64 0, .slice none 0 0, .slice none 0 0]) (results_cell_row Tryz.results55 _ _ Q _ _ _ _ rfl HST.out.1 Tryz.underlying40 rfl (rec_info rfl)) rfl ?_
  refine ⟨⟨⟨(x4 : Int), x2, x3, 0, 0, 0, [], [], [], 0, 0, false, 0, [], []⟩, (.slice none 0 0), (.slice none 0 0), (.slice none 0 0), (.slice none 0 0), (.slice none 0 0), _, rfl, ⟨own_nil _ _, own_nil _ _, own_nil _ _, Chr.own_nil _ _, Dir.own_nil _ _, ?_⟩, Lr.took_none (k := x4) HH.out (by omega), ?_⟩, grown_two HG.out HST.out.2 (Nat.le_of_eq HQ.out.symm)⟩
  · exact ⟨by have := HS4.out; rw [show (256 : Nat) ^ 1 = 256 from rfl] at this; dsimp only; omega, Nat.lt_of_lt_of_le HS2.out (by decide), Nat.lt_of_lt_of_le HS3.out (by decide), (show 0 < 18446744073709551616 by decide), (show 0 < 4294967296 by decide), (show 0 < 65536 by decide), (by simp), (by simp), (by simp), (show 0 < 18446744073709551616 by decide), (show 0 < 18446744073709551616 by decide), (show 0 < 18446744073709551616 by decide), (by simp), (by simp)⟩
  · exact ⟨(by simp), (by simp), (by simp), (by simp), (by simp)⟩
end Go.Proofs.YtafpjcobagofcaaGreat
