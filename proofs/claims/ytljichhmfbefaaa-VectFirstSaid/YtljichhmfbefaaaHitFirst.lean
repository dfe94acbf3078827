/- What slices.Clone, the program's sorted and First answer over hits: new memory that holds the first of them, in order. Conditions: the slice's cells hold the hits; at most a million. -/
import Derived.Test.YtljichhmfbefaaaHitSort
import Derived.Lib.SliceRun
namespace Go.Proofs.Ytljichhmfbefaaa
open Go.RowKit Go.Sort

/-- New memory that holds the hits l. -/
def HNew (l : List Hit) (w : World) (e : Ending) (w' : World) : Prop := ∃ v, e = .returned v ∧ HOwn w.heap.size w' v l ∧ Below w.heap.size w w'

set_option maxHeartbeats 800000 in
theorem clone_any (v : Value) (l : List Hit) (w : World) (hB : HBts w v l) (hl : l.length ≤ 1000000) :
    Calls Try.prog 30 #[v] w (HNew l w) := by
  have q22 : ∀ (w : World) (a : Option Addr) (n c n' c' : Nat), (binOp .eql 32 (.slice a n c) (.slice none n' c')).run Try.prog w = .ok (.bool a.isNone) w := fun w a n c n' c' => Lib.run_eql_slice_nil w _ _ a n c n' c' Try.underlying32
  have HB := Lib.hid hB
  obtain ⟨p, cap, rfl, hr, hn, hp⟩ := hB.form
  have hp0 := hp
  clear hB hp
  cases p with
  | none =>
    obtain rfl := hn rfl
    obtain rfl : l = [] := List.eq_nil_of_length_eq_zero (by omega)
    clear hp0 hn HB
    go_enter Try.func30, Try.ntmps30
    go_wp2
    go_ret
    exact ⟨_, rfl, hown_nil _ _, Below.refl _ _⟩
  | some ad =>
    clear hp0 hn
    have HO := Lib.hid (hown_empty w w.heap.size (Nat.le_refl _))
    have hb0 : Below w.heap.size w (w.alloc (.cells #[] 35)) := (Below.refl _ _).alloc (Nat.le_refl _) _
    have HW0 := Lib.hid hb0
    clear hb0
    go_enter Try.func30, Try.ntmps30
    go_upto_region 3 with (fail)
    go_step
    go_step
    go_step
    go_step
    go_step
    go_step
    go_step
    refine wpList_append_HOwn rfl (.tmp 5) (.tmp 6) rfl w.heap.size _ [] rfl HO.out _ l rfl (HB.out.below HW0.out) (by simp; omega) HW0.out.size ?_
    intro v1 w1 hown1 hb1 _
    have H1 := Lib.hid hown1
    have H2 := Lib.hid (HW0.out.trans hb1)
    clear hown1 hb1
    go_wp2
    go_ret
    exact ⟨_, rfl, H1.out, H2.out⟩

set_option maxHeartbeats 800000 in
theorem sorted_any (base : Nat) (v : Value) (l : List Hit) (k : Int) (w : World) (hO : HOwn base w v l) (hl : l.length ≤ 1000000) (hb : base ≤ w.heap.size) :
    Calls Try.prog 29 #[v, .int .i64 k] w fun e w' => ∃ v', e = .returned v' ∧ HOwn base w' v' ((Hp.srt l).take k.toNat) ∧ Below base w w' := by
  have HO := Lib.hid hO
  have hsl := Hp.srt_length l
  obtain ⟨n, hn⟩ : ∃ n : Nat, max 0 (min k (l.length : Int)) = (n : Int) := ⟨(max 0 (min k (l.length : Int))).toNat, by omega⟩
  have hnl : n ≤ l.length := by omega
  have he : (Hp.srt l).take k.toNat = (Hp.srt l).take n := by
    by_cases h : k.toNat ≤ l.length
    · have : k.toNat = n := by omega
      rw [this]
    · rw [List.take_of_length_le (by omega), List.take_of_length_le (by omega)]
  rw [he]
  clear he
  rcases hO.form with ⟨rfl, rfl⟩ | ⟨g, cap, rfl, hg, hgl, hcl, hcm⟩
  · obtain rfl : n = 0 := by simpa using hnl
    have HN := Lib.hid (sortNone_any none 0 w)
    clear hO hsl
    go_enter Try.func29, Try.ntmps29
    go_wp2_with fail
    refine HN.out.mono ?_
    rintro e w' ⟨rfl, rfl⟩
    have hn0 : max 0 (min k 0) = 0 := by simpa using hn
    go_wp2_with fail
    go_ret
    exact ⟨_, rfl, by simpa using HO.out, Below.refl _ _⟩
  · have HS := Lib.hid (sortFunc_any base g cap l w hO hl)
    have HT := Lib.hid (fun (w' : World) (h : HOwn base w' (.slice (some ⟨g, 0, none⟩) l.length cap) (Hp.srt l)) => by
      have h2 := h
      rw [← hsl] at h2
      exact h2.take n (by rw [hsl]; exact hnl))
    clear hO
    have hnc : n ≤ cap := by omega
    go_enter Try.func29, Try.ntmps29
    go_wp2_with fail
    refine HS.out.mono ?_
    rintro e w' ⟨rfl, hs, hgr⟩
    have HS1 := Lib.hid (HT.out _ hs)
    have HB1 := Lib.hid ((Below.refl base w).grown hgr hb (fun i hi => by cases hi; exact hg))
    clear hs hgr
    go_wp2_with fail
    go_ret
    exact ⟨_, rfl, HS1.out, HB1.out⟩

set_option maxHeartbeats 800000 in
theorem first_any (v : Value) (l : List Hit) (k : Int) (w : World) (hB : HBts w v l) (hl : l.length ≤ 1000000) :
    Calls Try.prog 19 #[v, .int .i64 k] w (HNew ((Hp.srt l).take k.toNat) w) := by
  have HC := Lib.hid (clone_any v l w hB hl)
  clear hB
  go_enter Try.func19, Try.ntmps19
  go_wp2_with fail
  refine HC.out.mono ?_
  rintro e w1 ⟨v1, rfl, h1, h2⟩
  have HS := Lib.hid (sorted_any w.heap.size v1 l k w1 h1 hl h2.size)
  have HB := Lib.hid h2
  clear h1 h2
  go_wp2_with fail
  refine HS.out.mono ?_
  rintro e w2 ⟨v2, rfl, h1, h2⟩
  have H1 := Lib.hid h1
  have H2 := Lib.hid (HB.out.trans h2)
  clear h1 h2
  go_wp2_with fail
  go_ret
  exact ⟨_, rfl, H1.out, H2.out⟩
end Go.Proofs.Ytljichhmfbefaaa
