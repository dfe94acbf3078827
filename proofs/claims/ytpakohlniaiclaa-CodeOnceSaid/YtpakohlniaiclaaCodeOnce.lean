/- Of a count's bytes no other bytes are the same count: what is read, put again, is what was read. Conditions: the slice's cells hold the bytes. -/
import Derived.Test.YtpakohlniaiclaaCodeKnown
import Derived.Deep.RegionWith
namespace Go.Proofs.Ytpakohlniaiclaa
open Go.RowKit

def CvPut (w0 : World) (s : ByteArray) (e : Ending) (w' : World) : Prop := ∃ p n cap, e = .returned (.slice p n cap) ∧ (convert 22 9 (.slice p n cap)).run Try.prog w' = .ok (.string s) w' ∧ Below w0.heap.size w0 w'

theorem putUv_over (n : Nat) (w0 w : World) (hn : n < 18446744073709551616) (hb : Below w0.heap.size w0 w) :
    Calls Try.prog 12 #[.slice none 0 0, .int .u64 (n : Int)] w fun e w' => CvPut w0 (strOfNums ((Cod.uv n).map fun x : Nat => (x : Int))) e w' := by
  refine (PutUv_any _ [] n w (own_nil 0 w).bts hn (by decide)).mono ?_
  rintro e w' ⟨v, rfl, hO, hb2⟩
  rw [List.nil_append] at hO
  obtain ⟨p, cap, rfl, -, -, -⟩ := hO.bts.form
  exact ⟨p, _, cap, rfl, strOf_conv hO.bts, hb.trans (hb2.mono hb.size)⟩

theorem left_over (lo : Nat → Prop) (B e : Nat) (l : List Nat) (w0 w : World) (hR : Rd 59 lo w0 B l e) (hb : Below w0.heap.size w0 w) :
    Calls Try.prog 21 #[.pointer (some ⟨B, 0, none⟩)] w fun e w' => e = .returned (.int .i64 (l.length : Nat)) ∧ w = w' := left_any lo B e l w (hR.below hb)

theorem known_over (w0 w : World) (hb : Below w0.heap.size w0 w) :
    Calls Try.prog 18 #[] w fun e w' => e = .returned (.bool true) ∧ Below w0.heap.size w0 w' := by
  refine (known_any w).mono ?_
  rintro e w' ⟨rfl, hb2⟩
  exact ⟨rfl, hb.trans (hb2.mono hb.size)⟩

set_option maxHeartbeats 3200000 in
set_option maxRecDepth 20000 in
theorem once_any (v : Value) (l : List Nat) (w : World) (hB : Bts w v l) :
    Calls Try.prog 7 #[v] w fun e w' => e = .returned (.bool true) ∧ Below w.heap.size w w' := by
  have HB := Lib.hid hB
  obtain ⟨p, cap, rfl, hr, hn, hp⟩ := hB.form
  have hlen := hB.len
  have hcap := hr.1
  have hcap2 := hr.2
  have HP := Lib.hid hp
  clear hB hr hn hp
  go_enter Try.func7, Try.ntmps7
  go_wp2_with fail
  refine (newReader_any _ _ _ HB.out).mono ?_
  rintro e w1 ⟨B, rfl, hR1, hB1, hb1⟩
  have HR1 := Lib.hid hR1
  have HW1 := Lib.hid hb1
  have HB1 := Lib.hid hB1
  clear hR1 hb1 hB1
  go_wp2_with fail
  refine (Uv_any _ _ _ _ _ HR1.out).mono ?_
  rintro e w2 ⟨rfl, hR2, hg2⟩
  have HW2 := Lib.hid (below_grown HW1.out hg2 HW1.out.size HB1.out)
  have HB2 := Lib.hid (HB.out.below HW2.out)
  unfold Cod.rdUv at hR2 ⊢
  rw [if_neg (by decide)] at hR2 ⊢
  by_cases hk : (Cod.cnt 0 l).2 = 0
  · rw [if_pos hk] at hR2 ⊢
    have HR2 := Lib.hid hR2
    clear hR2 hg2 hk
    go_wp2_with fail
    refine (err_any _ _ _ _ _ HR2.out).mono ?_
    rintro e w' ⟨rfl, rfl⟩
    go_wp2_with fail
    refine (left_any _ _ _ _ _ HR2.out).mono ?_
    rintro e w' ⟨rfl, rfl⟩
    go_wp2_with fail
    refine (known_any _).mono ?_
    rintro e w3 ⟨rfl, hb3⟩
    have HW3 := Lib.hid (HW2.out.trans (hb3.mono HW2.out.size))
    clear hb3
    go_wp2_with fail
    go_ret
    exact ⟨rfl, HW3.out⟩
  · rw [if_neg hk] at hR2 ⊢
    have HR2 := Lib.hid hR2
    have hkl := Cod.cnt_len l 0
    have HUV := Lib.hid (Cod.uv_cnt l 0 HB.out.small hk).1
    have HN := Lib.hid (Cod.cnt_lt64 l)
    clear hR2 hg2
    generalize Cod.cnt 0 l = c at hk hkl HUV HN HR2 ⊢
    obtain ⟨n, k⟩ := c
    have hk1 : 0 < k := by simp at hk; omega
    have hk2 : k ≤ l.length := hkl
    clear hk hkl
    go_wp2_with fail
    refine (err_any _ _ _ _ _ HR2.out).mono ?_
    rintro e w' ⟨rfl, rfl⟩
    go_wp2_with fail
    obtain ⟨m, hm⟩ : ∃ m, m = (l.drop k).length := ⟨_, rfl⟩
    have hml : m = l.length - k := by rw [hm]; simp
    have HL := Lib.hid (fun w' hb => left_over _ _ _ _ w2 w' HR2.out hb)
    rw [← hm] at HL
    have hsub : IntKind.i64.wrap ((l.length : Int) - (m : Int)) = (k : Int) := by
      rw [IntWalk.i64_in _ (by omega)]; omega
    have hcv : ∀ w', Below w2.heap.size w2 w' → (convert 22 9 (.slice p k cap)).run Try.prog w' = .ok (.string (strOfNums ((Cod.uv n).map fun x : Nat => (x : Int)))) w' := by
      intro w' hb
      rw [HUV.out]
      have h := strOf_conv ((HB2.out.take k hk2).below hb)
      exact h
    have hk3 : (k : Int) ≤ (cap : Int) := by omega
    have hk0 : (0 : Int) ≤ (k : Int) := by omega
    clear hm hml hk1 hk2 hlen hcap
    have hb0 : Below w2.heap.size w2 w2.drew := below_drew _ _
    go_region_with (first | ((with_reducible refine (putUv_over _ w2 _ HN.out (by first | assumption | exact below_drew _ _)).mono ?_); rintro e w' ⟨p1, n1, cap1, rfl, hc1, hb⟩) | ((with_reducible refine (HL.out _ (by first | assumption | exact below_drew _ _)).mono ?_); rintro e w' ⟨rfl, rfl⟩) | ((with_reducible refine (known_over w2 _ (by first | assumption | exact below_drew _ _)).mono ?_); rintro e w' ⟨rfl, hb⟩))
    all_goals
      go_wp2
      go_ret
      exact ⟨rfl, HW2.out.trans (Below.mono (by assumption) HW2.out.size)⟩
end Go.Proofs.Ytpakohlniaiclaa
