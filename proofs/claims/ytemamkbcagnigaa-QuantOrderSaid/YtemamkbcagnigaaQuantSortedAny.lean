/- What the program's Sorted answers, as a call. Conditions: the slice's cells hold the numbers; at most a million. -/
import Derived.Test.YtemamkbcagnigaaQuantSorted
import Derived.Shelf.SlSortCmp.NoneTotal
namespace Go.Proofs.Ytemamkbcagnigaa
open Go.RowKit Go.Shelf Go.Sort

theorem sortNone_any (w : World) : Calls Try.prog 42 #[.slice none 0 0, .func (.func 20) #[] #[]] w fun e w' => e = .returned (.tuple #[]) ∧ w' = w :=
  AnyF.slices_SortFunc_none (P := Try.prog) (ρ := sortU_ren) { sortU_lays with } none 0 (.func (.func 20) #[] #[]) w

set_option maxHeartbeats 1000000 in
theorem collect_any (Bs : Nat) (sv : Value) (zs : List Int) (hlen : zs.length ≤ 1000000) (w : World) (hBs : Bs < w.heap.size) (hcs : w.cell? ⟨Bs, 0, none⟩ = some sv) (hI : Ints w.heap.size w sv zs) :
    Calls Try.prog 41 #[.func (.func 43) #[] #[.pointer (some ⟨Bs, 0, none⟩)]] w fun e W' =>
      ∃ v, e = .returned v ∧ W'.ownsRow w.heap.size 22 1 v zs.length (zs.map (Value.int .u64)) ∧ (v = .slice none 0 0 ↔ zs = []) ∧ Below w.heap.size w W' := by
  have hap := callsIn_wide.1 (appendSeq_in Fence.wide 3 trivial trivial rfl (Nat.le_refl _) Bs sv zs hlen w hBs hcs hI)
  have HA := Lib.hid hap
  clear hap hcs hI
  go_enter Try.func41, Try.ntmps41
  go_wp2_with fail
  refine HA.out.mono ?_
  rintro e w' ⟨v, rfl, h1, h2, h3⟩
  have H1 := Lib.hid h1
  have H2 := Lib.hid h2
  have H3 := Lib.hid h3
  clear h1 h2 h3
  go_wp2_with fail
  go_ret
  exact ⟨_, rfl, H1.out, H2.out, H3.out⟩

set_option maxHeartbeats 1000000 in
theorem sortedFunc_any (Bs : Nat) (sv : Value) (zs : List Int) (hok : ∀ z ∈ zs, U64.Okk z) (hlen : zs.length ≤ 1000000) (w : World) (hBs : Bs < w.heap.size) (hcs : w.cell? ⟨Bs, 0, none⟩ = some sv) (hI : Ints w.heap.size w sv zs) :
    Calls Try.prog 35 #[.func (.func 43) #[] #[.pointer (some ⟨Bs, 0, none⟩)], .func (.func 20) #[] #[]] w (SortedAns2 zs w) := by
  have HA := Lib.hid (collect_any Bs sv zs hlen w hBs hcs hI)
  clear hcs hI
  by_cases h0 : zs = []
  · subst h0
    go_enter Try.func35, Try.ntmps35
    go_wp2_with fail
    refine HA.out.mono ?_
    rintro e w1 ⟨v, rfl, h1, h2, h3⟩
    obtain rfl := h2.2 (by first | trivial | rfl)
    have H3 := Lib.hid h3
    clear h1 h2 h3
    go_wp2_with fail
    refine (sortNone_any _).mono ?_
    rintro e w' ⟨rfl, rfl⟩
    go_wp2_with fail
    go_ret
    exact ⟨_, [], rfl, List.Perm.refl _, by intro i j _ hj; simp at hj, U64.own_nil _ _, H3.out⟩
  · go_enter Try.func35, Try.ntmps35
    go_wp2_with fail
    refine HA.out.mono ?_
    rintro e w1 ⟨v, rfl, h1, h2, h3⟩
    have hown : U64.Own w.heap.size w1 v zs := ⟨h1, hok, by omega⟩
    obtain ⟨g, cap, rfl, hg, hcap, hm, -⟩ : ∃ g cap, v = .slice (some ⟨g, 0, none⟩) zs.length cap ∧ w.heap.size ≤ g ∧ zs.length ≤ cap ∧ cap ≤ maxLen ∧ U64.Row w1 g zs.length := by
      rcases hown.form with ⟨_, h⟩ | h
      · exact absurd h h0
      · exact h
    have H1 := Lib.hid hown
    have H3 := Lib.hid h3
    clear h1 h2 h3 hown
    unfold maxLen at hm
    go_wp2_with fail
    refine (sortFunc_any w.heap.size g cap zs _ H1.out hlen).mono ?_
    rintro e w2 ⟨rfl, ts, hp, hr, ho, hgr⟩
    have HP := Lib.hid hp
    have HR := Lib.hid hr
    have HO := Lib.hid ho
    have HG := Lib.hid (U64.below_grown H3.out hgr H3.out.size hg)
    clear hp hr ho hgr
    go_wp2_with fail
    go_ret
    exact ⟨_, ts, rfl, HP.out, HR.out, HO.out, HG.out⟩

theorem ints_of {w : World} {g cap : Nat} {l : List Int} (hg : g < w.heap.size) (h : U64.Bts w (.slice (some ⟨g, 0, none⟩) l.length cap) l) : Ints w.heap.size w (.slice (some ⟨g, 0, none⟩) l.length cap) l := by
  obtain ⟨p, cap', hv, -, hn, hp⟩ := h.form
  refine .inr ⟨g, 0, cap, rfl, hg, fun j hj => ?_⟩
  obtain ⟨b, off, rfl, hc⟩ := hp (by omega)
  simp only [Value.slice.injEq, Option.some.injEq, Addr.mk.injEq, and_true, true_and] at hv
  obtain ⟨⟨rfl, rfl⟩, rfl⟩ := hv
  rw [hc j hj]
  simp

set_option maxHeartbeats 1000000 in
theorem sorted_any (g cap : Nat) (l : List Int) (w : World) (hg : g < w.heap.size) (hB : U64.Bts w (.slice (some ⟨g, 0, none⟩) l.length cap) l) (hlen : l.length ≤ 1000000) :
    Calls Try.prog 22 #[.slice (some ⟨g, 0, none⟩) l.length cap] w (SortedAns2 l w) := by
  have hI := ints_of hg hB
  have hb0 : Below w.heap.size w (w.alloc (.cells #[.slice (some ⟨g, 0, none⟩) l.length cap] 34)) := (Below.refl _ w).alloc (Nat.le_refl _) _
  have hI2 : Ints (w.alloc (.cells #[.slice (some ⟨g, 0, none⟩) l.length cap] 34)).heap.size (w.alloc (.cells #[.slice (some ⟨g, 0, none⟩) l.length cap] 34)) (.slice (some ⟨g, 0, none⟩) l.length cap) l := by
    rcases hI.below hb0 with h | ⟨b, off, c, h1, h2, h3⟩
    · exact .inl h
    · exact .inr ⟨b, off, c, h1, by simp; omega, h3⟩
  have hcell : (w.alloc (.cells #[.slice (some ⟨g, 0, none⟩) l.length cap] 34)).cell? ⟨w.heap.size, 0, none⟩ = some (.slice (some ⟨g, 0, none⟩) l.length cap) := by simp
  have HS := Lib.hid (sortedFunc_any w.heap.size _ l hB.small hlen _ (by simp) hcell hI2)
  have HB0 := Lib.hid hb0
  clear hI hI2 hcell hb0 hB
  go_enter Try.func22, Try.ntmps22
  go_wp2_with fail
  refine (callsValues _ _ _ _ _ rfl).mono ?_
  rintro e w' ⟨rfl, rfl⟩
  go_wp2_with fail
  refine HS.out.mono ?_
  rintro e w2 ⟨sv, ts, rfl, hp, hr, ho, hb⟩
  have HP := Lib.hid hp
  have HR := Lib.hid hr
  have HO := Lib.hid (ho.from (base' := w.heap.size) (by simp))
  have HB := Lib.hid (HB0.out.trans (hb.mono (by simp)))
  clear hp hr ho hb
  go_wp2_with fail
  go_ret
  exact ⟨_, ts, rfl, HP.out, HR.out, HO.out, HB.out⟩
end Go.Proofs.Ytemamkbcagnigaa
