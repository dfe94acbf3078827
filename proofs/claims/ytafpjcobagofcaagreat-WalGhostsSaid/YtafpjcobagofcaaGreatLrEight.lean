/- Numbers in eight bytes each, open transactions and dirty pages as bytes, by the program. Conditions: the slices' cells hold what they tell; the room. -/
import Derived.Test.YtafpjcobagofcaaGreatRecM
import Derived.Test.YtafpjcobagofcaaGreatCodeP
import Derived.Test.YtafpjcobagofcaaGreatCodeR
namespace Go.Proofs.YtafpjcobagofcaaGreat
open Go.RowKit

/-- So many numbers in a slice. -/
def N64 (w : World) (v : Value) (L : List Nat) : Prop := ∃ b cap, v = .slice (some ⟨b, 0, none⟩) L.length cap ∧ ∀ i, i < L.length → w.cell? ⟨b, i, none⟩ = some (.int .u64 (L.getD i 0 : Nat))
def les (L : List Nat) : List Nat := L.flatMap (Cod.le 8)
theorem les_length : ∀ L : List Nat, (les L).length = 8 * L.length
  | [] => rfl
  | x :: L => by
    have := les_length L
    unfold les at *
    rw [List.flatMap_cons, List.length_append, this, Cod.le_length, List.length_cons]; omega
theorem les_snoc (L : List Nat) (k : Nat) (h : k < L.length) : les (L.take (k + 1)) = les (L.take k) ++ Cod.le 8 (L.getD k 0) := by
  rw [take_succ_getD L k h]
  unfold les
  rw [List.flatMap_append]
  simp
theorem N64.below {w w' : World} {v : Value} {L : List Nat} (h : N64 w v L) (hb : Below w.heap.size w w') : N64 w' v L := by
  obtain ⟨b, cap, hv, hc⟩ := h
  refine ⟨b, cap, hv, fun i hi => ?_⟩
  have h1 := hc i hi
  rw [hb.cell (p := ⟨b, i, none⟩) (block_lt_of_cell h1)]
  exact h1
theorem n64_new (w : World) (L : List Nat) (n : Nat) (hn : L.length = n) (A : Array Value) (t : TypeId) (hA : A = (L.map fun x : Nat => Value.int .u64 (x : Int)).toArray) : N64 (w.alloc (.cells A t)) (.slice (some ⟨w.heap.size, 0, none⟩) n n) L := by
  subst hA
  refine ⟨_, n, by rw [hn], fun i hi => ?_⟩
  rw [cell_of_row _ _ i _ _ (0, 0) (heap_alloc_last _ _)]
  simp [List.getElem?_eq_getElem hi]

set_option maxHeartbeats 1600000 in
set_option maxRecDepth 20000 in
theorem eights_any (v : Value) (L : List Nat) (w : World) (h : N64 w v L) (hl : L.length ≤ 100) :
    Calls Tryz.prog 74 #[v] w fun e w' => ∃ u, e = .returned u ∧ Own w.heap.size w' u (les L) ∧ Below w.heap.size w w' := by
  obtain ⟨b, cap, rfl, hc0⟩ := h
  have HC := Lib.hid hc0
  clear hc0
  go_enter Tryz.func74, Tryz.ntmps74
  go_wp2_with fail
  go_loopw [3, 8] (fun s i wr => ∃ (k : Nat) (sv : Value), sv = s ∧ k ≤ L.length ∧ i = .int .i64 k ∧ Own w.heap.size wr s (les (L.take k)) ∧ Below w.heap.size w wr) (fun _ i _ => L.length - (intOf i).toNat)
  case atStart => exact ⟨0, _, rfl, Nat.zero_le _, rfl, own_nil _ _, Below.refl _ _⟩
  case round =>
    obtain ⟨k, s, hs, hk, rfl, hO, hb⟩ := hrel
    subst hs
    have HO := Lib.hid hO
    have HW := Lib.hid hb
    by_cases hlt : k < L.length
    · have hi : (k : Int) < (L.length : Int) := by omega
      have hcell := HC.out k hlt
      have hc := hb.cell (p := ⟨b, k, none⟩) (block_lt_of_cell hcell)
      rw [hcell] at hc
      have hw1 := IntWalk.i64_in ((k : Int) + 1) (by omega)
      have hle := les_length (L.take k)
      rw [List.length_take] at hle
      have HL := Lib.hid hle
      have HLT := Lib.hid hlt
      clear hcell hO hb hle
      generalize hx : L.getD k 0 = x at *
      have HX := Lib.hid hx
      clear hx
      go_wp2_with fail
      refine (Put64_any (.slice none 0 0) [] x _ (bts_none _) (by decide)).mono ?_
      rintro e w1 ⟨u, rfl, hO1, hb1⟩
      rw [List.nil_append] at hO1
      have HO1 := Lib.hid hO1
      have HB1 := Lib.hid hb1
      clear hO1 hb1
      dsimp only
      go_step
      refine wpList_append_Own rfl (.tmp 12) (.tmp 14) rfl w.heap.size s _ rfl (HO.out.below HB1.out) u _ rfl HO1.out.bts (by rw [HL.out, Cod.le_length]; omega) (Nat.le_trans HW.out.size HB1.out.size) ?_
      intro v2 w2 hO2 hb2 _
      have HO2 := Lib.hid hO2
      have HW2 := Lib.hid ((HW.out.trans (HB1.out.mono HW.out.size)).trans hb2)
      clear hO2 hb2
      go_wp2_with fail
      go_roundw
      case rel =>
        refine ⟨k + 1, _, rfl, HLT.out, by go_num, ?_, HW2.out⟩
        rw [les_snoc L k HLT.out, HX.out]
        exact HO2.out
      case measure => have := HLT.out; simp [intOf]; omega
    · obtain rfl : k = L.length := by omega
      have hi : ¬ (L.length : Int) < (L.length : Int) := by omega
      clear hO hb hlt
      go_wp2_with fail
      go_ret
      have h2 := HO.out
      rw [List.take_length] at h2
      exact ⟨_, rfl, h2, HW.out⟩

/-- What the call owns is none of the blocks to come. -/
theorem own_not {base : Nat} {w : World} {v : Value} {l : List Nat} (h : Own base w v l) : v.ownBlock ≠ some w.heap.size := by
  rcases h.form with ⟨rfl, -⟩ | ⟨g, cap, rfl, -, -, -, hr⟩
  · simp [Value.ownBlock]
  · have := hr.lt
    simp only [Value.ownBlock, ne_eq, Option.some.injEq]
    omega

theorem Chr.chs_snoc (l : List Lr.Ch) (k : Nat) (h : k < l.length) : Lr.chs (l.take (k + 1)) = Lr.chs (l.take k) ++ les [(l.getD k default).1, (l.getD k default).2.1, (l.getD k default).2.2] := by
  rw [List.take_succ_eq_append_getElem h]
  unfold Lr.chs les
  rw [List.flatMap_append]
  simp [Lr.chB, List.getElem?_eq_getElem h]
theorem Dir.dis_snoc (l : List Lr.Di) (k : Nat) (h : k < l.length) : Lr.dis (l.take (k + 1)) = (Lr.dis (l.take k) ++ Cod.le 4 (l.getD k default).1) ++ Cod.le 8 (l.getD k default).2 := by
  rw [List.take_succ_eq_append_getElem h]
  unfold Lr.dis
  rw [List.flatMap_append]
  simp [Lr.diB, List.getElem?_eq_getElem h]

set_option maxHeartbeats 1600000 in
set_option maxRecDepth 20000 in
theorem chains_any (v : Value) (l : List Lr.Ch) (w : World) (h : Chr.Bts w v l) (hl : l.length ≤ 10000) :
    Calls Tryz.prog 75 #[v] w fun e w' => ∃ u, e = .returned u ∧ Own w.heap.size w' u (Cod.uv l.length ++ Lr.chs l) ∧ Below w.heap.size w w' := by
  have HH := Lib.hid h
  obtain ⟨p, cap, rfl⟩ := h.slice
  have hu := Cod.uv_ten (n := l.length) (by omega)
  have hw0 : IntKind.u64.wrap (l.length : Int) = (l.length : Int) := by rw [IntKind.wrap_u64]; omega
  clear h
  go_enter Tryz.func75, Tryz.ntmps75
  go_wp2_with fail
  refine (PutUv_any (.slice none 0 0) [] l.length _ (bts_none _) (by omega) (by decide)).mono ?_
  rintro e w1 ⟨u0, rfl, hO1, hb1⟩
  rw [List.nil_append] at hO1
  have HO1 := Lib.hid hO1
  have HB1 := Lib.hid hb1
  clear hO1 hb1 hw0
  go_wp2_with fail
  go_loopw [3, 12] (fun s i wr => ∃ (k : Nat) (sv : Value), sv = s ∧ k ≤ l.length ∧ i = .int .i64 k ∧ Own w.heap.size wr s (Cod.uv l.length ++ Lr.chs (l.take k)) ∧ Below w.heap.size w wr) (fun _ i _ => l.length - (intOf i).toNat)
  case atStart => exact ⟨0, _, rfl, Nat.zero_le _, rfl, by rw [List.take_zero]; simpa [Lr.chs] using HO1.out, HB1.out⟩
  case round =>
    obtain ⟨k, s, hs, hk, rfl, hO, hb⟩ := hrel
    subst hs
    have HO := Lib.hid hO
    have HW := Lib.hid hb
    by_cases hlt : k < l.length
    · have hi : (k : Int) < (l.length : Int) := by omega
      obtain ⟨ba, oa, ga, hpa⟩ := HH.out.some (by omega)
      simp only [Value.slice.injEq, true_and] at hpa
      obtain ⟨rfl, rfl⟩ := hpa
      have hB2 := HH.out.below hb
      have c0 := hB2.at k hlt 0 (by decide)
      have c1 := hB2.at k hlt 1 (by decide)
      have c2 := hB2.at k hlt 2 (by decide)
      simp only [Chr.enc, List.getElem?_cons_zero, List.getElem?_cons_succ, Nat.add_zero] at c0 c1 c2
      have hw1 := IntWalk.i64_in ((k : Int) + 1) (by omega)
      have hle := Lr.chs_length (l.take k)
      rw [List.length_take] at hle
      have HL := Lib.hid hle
      have HLT := Lib.hid hlt
      have HU := Lib.hid hu
      clear hO hb hle hB2 hu
      generalize hx0 : (l.getD k default).1 = x0 at *
      generalize hx1 : (l.getD k default).2.1 = x1 at *
      generalize hx2 : (l.getD k default).2.2 = x2 at *
      have HX : Hid (_ ∧ _ ∧ _) := ⟨hx0, hx1, hx2⟩
      clear hx0 hx1 hx2
      go_wp2_with fail
      have hn := n64_new (wr.alloc (.cells #[.int .u64 (x0 : Int), .int .u64 (x1 : Int), .int .u64 (x2 : Int)] 136)) [x0, x1, x2] 3 rfl #[.int .u64 (x0 : Int), .int .u64 (x1 : Int), .int .u64 (x2 : Int)] 30 rfl
      have hbn : Below wr.heap.size wr ((wr.alloc (.cells #[.int .u64 (x0 : Int), .int .u64 (x1 : Int), .int .u64 (x2 : Int)] 136)).alloc (.cells #[.int .u64 (x0 : Int), .int .u64 (x1 : Int), .int .u64 (x2 : Int)] 30)) := ((Below.refl _ _).alloc (Nat.le_refl _) _).alloc (by simp) _
      have hsz : (wr.alloc (.cells #[.int .u64 (x0 : Int), .int .u64 (x1 : Int), .int .u64 (x2 : Int)] 136)).heap.size = wr.heap.size + 1 := by simp
      rw [hsz] at hn
      clear hsz
      generalize (wr.alloc (.cells #[.int .u64 (x0 : Int), .int .u64 (x1 : Int), .int .u64 (x2 : Int)] 136)).alloc (.cells #[.int .u64 (x0 : Int), .int .u64 (x1 : Int), .int .u64 (x2 : Int)] 30) = wn at *
      refine (eights_any _ [x0, x1, x2] wn hn (show 3 ≤ 100 by decide)).mono ?_
      rintro e w1 ⟨u, rfl, hO1, hb1⟩
      have HO1 := Lib.hid (hO1.from hbn.size)
      have HB1 := Lib.hid (hbn.trans (hb1.mono hbn.size))
      clear hO1 hb1 hn hbn
      dsimp only
      go_step
      refine wpList_append_Own rfl (.tmp 16) (.tmp 24) rfl w.heap.size s _ rfl (HO.out.below HB1.out) u _ rfl HO1.out.bts (by rw [List.length_append, HL.out, les_length]; have := HU.out; simp only [List.length_cons, List.length_nil]; omega) (Nat.le_trans HW.out.size HB1.out.size) ?_
      intro v2 w2 hO2 hb2 _
      have HO2 := Lib.hid hO2
      have HW2 := Lib.hid ((HW.out.trans (HB1.out.mono HW.out.size)).trans hb2)
      clear hO2 hb2
      go_wp2_with fail
      go_roundw
      case rel =>
        refine ⟨k + 1, _, rfl, HLT.out, by go_num, ?_, HW2.out⟩
        rw [Chr.chs_snoc l k HLT.out, HX.out.1, HX.out.2.1, HX.out.2.2, ← List.append_assoc]
        exact HO2.out
      case measure => have := HLT.out; simp [intOf]; omega
    · obtain rfl : k = l.length := by omega
      have hi : ¬ (l.length : Int) < (l.length : Int) := by omega
      clear hO hb hlt
      go_wp2_with fail
      go_ret
      have h2 := HO.out
      rw [List.take_length] at h2
      exact ⟨_, rfl, h2, HW.out⟩
set_option maxHeartbeats 1600000 in
set_option maxRecDepth 20000 in
theorem dirts_any (v : Value) (l : List Lr.Di) (w : World) (h : Dir.Bts w v l) (hl : l.length ≤ 10000) :
    Calls Tryz.prog 76 #[v] w fun e w' => ∃ u, e = .returned u ∧ Own w.heap.size w' u (Cod.uv l.length ++ Lr.dis l) ∧ Below w.heap.size w w' := by
  have HH := Lib.hid h
  obtain ⟨p, cap, rfl⟩ := h.slice
  have hu := Cod.uv_ten (n := l.length) (by omega)
  have hw0 : IntKind.u64.wrap (l.length : Int) = (l.length : Int) := by rw [IntKind.wrap_u64]; omega
  clear h
  go_enter Tryz.func76, Tryz.ntmps76
  go_wp2_with fail
  refine (PutUv_any (.slice none 0 0) [] l.length _ (bts_none _) (by omega) (by decide)).mono ?_
  rintro e w1 ⟨u0, rfl, hO1, hb1⟩
  rw [List.nil_append] at hO1
  have HO1 := Lib.hid hO1
  have HB1 := Lib.hid hb1
  clear hO1 hb1 hw0
  go_wp2_with fail
  go_loopw [3, 12] (fun s i wr => ∃ (k : Nat) (sv : Value), sv = s ∧ k ≤ l.length ∧ i = .int .i64 k ∧ Own w.heap.size wr s (Cod.uv l.length ++ Lr.dis (l.take k)) ∧ Below w.heap.size w wr) (fun _ i _ => l.length - (intOf i).toNat)
  case atStart => exact ⟨0, _, rfl, Nat.zero_le _, rfl, by rw [List.take_zero]; simpa [Lr.dis] using HO1.out, HB1.out⟩
  case round =>
    obtain ⟨k, s, hs, hk, rfl, hO, hb⟩ := hrel
    subst hs
    have HO := Lib.hid hO
    have HW := Lib.hid hb
    by_cases hlt : k < l.length
    · have hi : (k : Int) < (l.length : Int) := by omega
      obtain ⟨ba, oa, ga, hpa⟩ := HH.out.some (by omega)
      simp only [Value.slice.injEq, true_and] at hpa
      obtain ⟨rfl, rfl⟩ := hpa
      have hB2 := HH.out.below hb
      have c0 := hB2.at k hlt 0 (by decide)
      have c1 := hB2.at k hlt 1 (by decide)
      simp only [Dir.enc, List.getElem?_cons_zero, List.getElem?_cons_succ, Nat.add_zero] at c0 c1
      have hw1 := IntWalk.i64_in ((k : Int) + 1) (by omega)
      have hle := Lr.dis_length (l.take k)
      rw [List.length_take] at hle
      have HL := Lib.hid hle
      have HLT := Lib.hid hlt
      have HU := Lib.hid hu
      clear hO hb hle hB2 hu
      generalize hx0 : (l.getD k default).1 = x0 at *
      generalize hx1 : (l.getD k default).2 = x1 at *
      have HX : Hid (_ ∧ _) := ⟨hx0, hx1⟩
      clear hx0 hx1
      have HNE : Hid (s.ownBlock ≠ some wr.heap.size) := own_not HO.out
      go_wp2_with fail
      have hbn : Below wr.heap.size wr (wr.alloc (.cells #[.int .u32 (x0 : Int), .int .u64 (x1 : Int)] 139)) := below_new1 _ _
      have hrn : (wr.alloc (.cells #[.int .u32 (x0 : Int), .int .u64 (x1 : Int)] 139)).heap[wr.heap.size]? = some (.cells #[.int .u32 (x0 : Int), .int .u64 (x1 : Int)] 139 (0, 0)) := heap_alloc_last _ _
      generalize wr.alloc (.cells #[.int .u32 (x0 : Int), .int .u64 (x1 : Int)] 139) = wn at *
      refine (Put32_any (.slice none 0 0) [] x0 _ (bts_none _) (by decide)).mono ?_
      rintro e w1 ⟨u, rfl, hO1, hb1⟩
      rw [List.nil_append] at hO1
      have hrn1 := (hb1.block _ (lt_of_block hrn)).trans hrn
      have HO1 := Lib.hid hO1
      have HB1 := Lib.hid (hbn.trans (hb1.mono hbn.size))
      have HRN := Lib.hid hrn1
      clear hO1 hb1 hbn hrn hrn1
      dsimp only
      go_step
      refine wpList_append_Own rfl (.tmp 16) (.tmp 19) rfl w.heap.size s _ rfl (HO.out.below HB1.out) u _ rfl HO1.out.bts (by rw [List.length_append, HL.out, Cod.le_length]; have := HU.out; omega) (Nat.le_trans HW.out.size HB1.out.size) ?_
      intro v2 w2 hO2 hb2 hg2
      have hbn : v2 = v2 := rfl
      have hc1 := cell2_1 (show w2.heap[wr.heap.size]? = _ from (hg2.block _ (lt_of_block HRN.out) (fun e => HNE.out e.symm)).trans HRN.out)
      have HO2 := Lib.hid hO2
      have HW2 := Lib.hid ((HW.out.trans (HB1.out.mono HW.out.size)).trans hb2)
      clear hO2 hb2 hg2 hbn
      go_wp2_with fail
      refine (Put64_any (.slice none 0 0) [] x1 _ (bts_none _) (by decide)).mono ?_
      rintro e w3 ⟨u3, rfl, hO3, hb3⟩
      rw [List.nil_append] at hO3
      have HO3 := Lib.hid hO3
      have HB3 := Lib.hid hb3
      clear hO3 hb3 hc1
      dsimp only
      go_step
      refine wpList_append_Own rfl (.tmp 21) (.tmp 24) rfl w.heap.size v2 _ rfl (HO2.out.below HB3.out) u3 _ rfl HO3.out.bts (by rw [List.length_append, List.length_append, HL.out, Cod.le_length, Cod.le_length]; have := HU.out; omega) (Nat.le_trans HW2.out.size HB3.out.size) ?_
      intro v4 w4 hO4 hb4 _
      have HO4 := Lib.hid hO4
      have HW4 := Lib.hid ((HW2.out.trans (HB3.out.mono HW2.out.size)).trans hb4)
      clear hO4 hb4
      go_wp2_with fail
      go_roundw
      case rel =>
        refine ⟨k + 1, _, rfl, HLT.out, by go_num, ?_, HW4.out⟩
        rw [Dir.dis_snoc l k HLT.out, HX.out.1, HX.out.2, ← List.append_assoc, ← List.append_assoc]
        exact HO4.out
      case measure => have := HLT.out; simp [intOf]; omega
    · obtain rfl : k = l.length := by omega
      have hi : ¬ (l.length : Int) < (l.length : Int) := by omega
      clear hO hb hlt
      go_wp2_with fail
      go_ret
      have h2 := HO.out
      rw [List.take_length] at h2
      exact ⟨_, rfl, h2, HW.out⟩
end Go.Proofs.YtafpjcobagofcaaGreat
