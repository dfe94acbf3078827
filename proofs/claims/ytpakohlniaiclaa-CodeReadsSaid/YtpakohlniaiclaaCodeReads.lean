/- Whatever is asked of a reader of any bytes, one thing after the other, its answers are the document's. Conditions: the slices' cells hold the bytes and the questions. -/
import Derived.Test.YtpakohlniaiclaaCodeAsk
import Derived.Test.YtpakohlniaiclaaOrd
namespace Go.Proofs.Ytpakohlniaiclaa
open Go.RowKit

/-- The slice value v reads as n questions in the world w. -/
def Asks (w : World) (v : Value) (n : Nat) : Prop := ∃ p cap, v = .slice p n cap ∧ n ≤ cap ∧ cap ≤ 9223372036854775807 ∧ (0 < n → ∃ b off, p = some ⟨b, off, none⟩ ∧ ∀ i, i < n → ∃ k m : Int, w.cell? ⟨b, off + i * 2, none⟩ = some (.int .i64 k) ∧ w.cell? ⟨b, off + i * 2 + 1, none⟩ = some (.int .i64 m) ∧ m ≤ 9223372036854775807)

theorem Asks.below {w w' : World} {v : Value} {n : Nat} (h : Asks w v n) (hb : Below w.heap.size w w') : Asks w' v n := by
  obtain ⟨p, cap, hv, h1, h2, hp⟩ := h
  refine ⟨p, cap, hv, h1, h2, fun h0 => ?_⟩
  obtain ⟨b, off, hpe, hc⟩ := hp h0
  refine ⟨b, off, hpe, fun i hi => ?_⟩
  obtain ⟨k, m, hk, hm, hl⟩ := hc i hi
  exact ⟨k, m, by rw [hb.cell (p := ⟨b, off + i * 2, none⟩) (block_lt_of_cell hk)]; exact hk, by rw [hb.cell (p := ⟨b, off + i * 2 + 1, none⟩) (block_lt_of_cell hm)]; exact hm, hl⟩

/-- A question's outcome hangs on what the readers stand before. -/
theorem ask_det (base : Nat) (lo lo2 : Nat → Prop) (B B2 e : Nat) (l : List Nat) (kind most : Int) (hA : Apart base lo lo2 B B2) (hm : most ≤ 9223372036854775807) :
    ∃ (l5 : List Nat) (e5 : Nat), ∀ w, base ≤ w.heap.size → Both lo lo2 B B2 l e w →
      Calls Try.prog 20 #[.pointer (some ⟨B, 0, none⟩), .pointer (some ⟨B2, 0, none⟩), .agg #[.int .i64 kind, .int .i64 most]] w fun en w' => Asked base lo lo2 B B2 l5 e5 w en w' := by
  by_cases k0 : kind = 0
  · subst k0; exact ⟨_, _, fun w hb h => ask0 base lo lo2 B B2 e l most w hA h.1 h.2 hb⟩
  by_cases k1 : kind = 1
  · subst k1; exact ⟨_, _, fun w hb h => ask1 base lo lo2 B B2 e l most w hA h.1 h.2 hb⟩
  by_cases k2 : kind = 2
  · subst k2; exact ⟨_, _, fun w hb h => ask2 base lo lo2 B B2 e l most w hA h.1 h.2 hb⟩
  by_cases k3 : kind = 3
  · subst k3; exact ⟨_, _, fun w hb h => ask3 base lo lo2 B B2 e l most w hA h.1 h.2 hb⟩
  by_cases k4 : kind = 4
  · subst k4; exact ⟨_, _, fun w hb h => ask4 base lo lo2 B B2 e l most w hA h.1 h.2 hb⟩
  by_cases k5 : kind = 5
  · subst k5; exact ⟨_, _, fun w hb h => ask5 base lo lo2 B B2 e l most w hA h.1 h.2 hb hm⟩
  exact ⟨l, e, fun w hb h => askElse base lo lo2 B B2 e l kind most w h hb (by omega)⟩

/-- What the operations of a round's test leave. -/
def AskF (lo lo2 : Nat → Prop) (B B2 bq off n cap j : Nat) (kind most : Int) (l5 : List Nat) (e5 : Nat) (k : Nat) (v : Value) (w : World) : Prop :=
  match k with
  | 0 => v = .pointer (some ⟨B, 0, none⟩)
  | 1 => v = .pointer (some ⟨B2, 0, none⟩)
  | 2 => v = .slice (some ⟨bq, off, none⟩) n cap
  | 3 => v = .int .i64 (j : Int)
  | 4 => v = .pointer (some ⟨bq, off + j * 2, none⟩)
  | 5 => v = .agg #[.int .i64 kind, .int .i64 most]
  | 6 => v = .bool true ∧ Both lo lo2 B B2 l5 e5 w
  | 7 => v = .bool false ∧ Both lo lo2 B B2 l5 e5 w
  | 8 => v = .bool false ∧ Both lo lo2 B B2 l5 e5 w
  | 9 => v = .pointer (some ⟨B, 0, none⟩) ∧ Both lo lo2 B B2 l5 e5 w
  | 10 => v = .int .i64 (l5.length : Nat) ∧ Both lo lo2 B B2 l5 e5 w
  | 11 => v = .pointer (some ⟨B2, 0, none⟩) ∧ Both lo lo2 B B2 l5 e5 w
  | 12 => v = .pointer (some ⟨B2, 0, none⟩) ∧ Both lo lo2 B B2 l5 e5 w
  | 13 => v = .pointer (some ⟨B2, 0, none⟩) ∧ Both lo lo2 B B2 l5 e5 w
  | 14 => (∃ p c, v = .slice p l5.length c) ∧ Both lo lo2 B B2 l5 e5 w
  | 15 => v = .int .i64 (l5.length : Nat) ∧ Both lo lo2 B B2 l5 e5 w
  | 16 => v = .bool false ∧ Both lo lo2 B B2 l5 e5 w
  | 17 => v = .bool false ∧ Both lo lo2 B B2 l5 e5 w
  | 18 => v = .bool false ∧ Both lo lo2 B B2 l5 e5 w
  | 19 => v = .pointer (some ⟨B, 0, none⟩) ∧ Both lo lo2 B B2 l5 e5 w
  | 20 => v = .int .i64 (e5 : Int) ∧ Both lo lo2 B B2 l5 e5 w
  | 21 => v = .pointer (some ⟨B2, 0, none⟩) ∧ Both lo lo2 B B2 l5 e5 w
  | 22 => v = .pointer (some ⟨B2, 0, none⟩) ∧ Both lo lo2 B B2 l5 e5 w
  | 23 => v = .pointer (some ⟨B2, 1, none⟩) ∧ Both lo lo2 B B2 l5 e5 w
  | 24 => v = .int .i64 (e5 : Int) ∧ Both lo lo2 B B2 l5 e5 w
  | 25 => v = .bool false ∧ Both lo lo2 B B2 l5 e5 w
  | _ => v = .bool false ∧ Both lo lo2 B B2 l5 e5 w

theorem askF_stable (lo lo2 : Nat → Prop) (B B2 bq off n cap j : Nat) (kind most : Int) (l5 : List Nat) (e5 : Nat) (k : Nat) (v : Value) (w w' : World) (hT : Both lo lo2 B B2 l5 e5 w → Both lo lo2 B B2 l5 e5 w')
    (h : AskF lo lo2 B B2 bq off n cap j kind most l5 e5 k v w) : AskF lo lo2 B B2 bq off n cap j kind most l5 e5 k v w' := by
  unfold AskF at h ⊢
  split at h
  all_goals first | exact h | exact ⟨h.1, hT h.2⟩

def AskR (base : Nat) (W : World) (lo lo2 : Nat → Prop) (B B2 : Nat) (l : List Nat) (e : Nat) (D : Nat → Bool) (w : World) : Prop := Below base W w ∧ (D 6 = false → Both lo lo2 B B2 l e w)

theorem askR_step {base : Nat} {W : World} {lo lo2 : Nat → Prop} {B B2 : Nat} {l : List Nat} {e : Nat} {D : Nat → Bool} {w : World} (h : AskR base W lo lo2 B B2 l e D w) (k : Nat) (hk : k ≠ 6) : AskR base W lo lo2 B B2 l e (Ord.wth D k) w :=
  ⟨h.1, fun h6 => h.2 (by unfold Ord.wth at h6; rw [if_neg (Ne.symm hk)] at h6; exact h6)⟩

set_option maxHeartbeats 6400000 in
set_option maxRecDepth 20000 in
theorem reads_any (v1 v2 : Value) (l : List Nat) (n : Nat) (w : World) (hB : Bts w v1 l) (hQ : Asks w v2 n) (hl : l.length + 2 ≤ 140737488355328) :
    Calls Try.prog 4 #[v1, v2] w fun e w' => e = .returned (.bool true) ∧ Below w.heap.size w w' := by
  have HB := Lib.hid hB
  have HQ := Lib.hid hQ
  obtain ⟨p2, cap2, rfl, hn1, hn2, -⟩ := hQ
  obtain ⟨p1, cap1, rfl, hr1, -, hp1⟩ := hB.form
  have HOB : Hid (0 < l.length → ∀ b, (Value.slice p1 l.length cap1).ownBlock = some b → b < w.heap.size) := by
    intro h0 b hb
    obtain ⟨b', off, rfl, hc⟩ := hp1 h0
    have := block_lt_of_cell (hc 0 h0)
    simp only [Value.ownBlock, Option.some.injEq] at hb
    subst hb
    exact this
  clear hB hr1 hp1
  by_cases hn : 2000 < n
  · go_enter Try.func4, Try.ntmps4
    go_wp2_with fail
    refine (known_any _).mono ?_
    rintro e w1 ⟨rfl, hb⟩
    have HW := Lib.hid hb
    clear hb
    go_wp2_with fail
    go_ret
    exact ⟨rfl, HW.out⟩
  · go_enter Try.func4, Try.ntmps4
    go_wp2_with fail
    refine (lent_any _ l _ HB.out hl).mono ?_
    rintro e w1 ⟨g, c, rfl, hL1⟩
    have L1 := Lib.hid hL1
    clear hL1
    go_wp2_with fail
    refine (newReader_any _ l _ (L1.out.bts HB.out.small HB.out.len)).mono ?_
    rintro e w2 ⟨B, rfl, hR2, hB2, hb2⟩
    have HR2 := Lib.hid hR2
    have HBB := Lib.hid hB2
    have L2 := Lib.hid (L1.out.later hb2)
    clear hR2 hB2 hb2
    go_wp2_with fail
    refine (kept_any _ l g c _ _ L2.out (HB.out.below L2.out.below) hl).mono ?_
    rintro e w' ⟨rfl, rfl⟩
    go_wp2_with fail
    have HROW := Lib.hid L2.out.row
    have hlen := HB.out.len
    go_loopw [7] (fun i wr => ∃ k : Nat, k ≤ l.length ∧ i = .int .i64 k ∧ w2.grownBy wr (some g) ∧ Row wr g (l.length + 2)) (fun i _ => l.length - (intOf i).toNat)
    case atStart => exact ⟨0, Nat.zero_le _, rfl, grownBy_refl _ _, HROW.out⟩
    case round =>
      obtain ⟨k, hk, rfl, hgr, hrow⟩ := hrel
      have HGR := Lib.hid hgr
      have HR := Lib.hid hrow
      clear hgr hrow
      by_cases hlt : k < l.length
      · have hrow := HR.out
        obtain ⟨b, hb, hck⟩ := hrow.cell k (by omega)
        have hfk := hrow.free k
        have HX := Lib.hid (hrow.set k (b ^^^ 85) (Nat.xor_lt_two_pow (n := 8) hb (by decide)))
        have HXE : Hid (bits .xor .u8 (b : Int) 85 = ((b ^^^ 85 : Nat) : Int)) := u8_xor_nat b 85 hb (by decide)
        clear hrow
        go_wp2_with fail
        go_roundw
        case rel => exact ⟨k + 1, by omega, by go_num, grownBy_trans HGR.out (grownBy_setCell _ _ _ _), by rw [HXE.out]; exact HX.out⟩
        case measure => simp [intOf]; omega
      · obtain rfl : k = l.length := by omega
        have hgw : g < w1.heap.size := L1.out.row.lt
        have hgn := L1.out.new
        have HR3 := Lib.hid (HR2.out.grown HGR.out (fun g' hg' => by cases hg'; exact ⟨fun h => by omega, by have := HBB.out; omega⟩))
        have HW3 := Lib.hid (below_grown2 L2.out.below HGR.out (Nat.le_refl _) hgn)
        have HB3 := Lib.hid (HB.out.below HW3.out)
        have hBw : B < wr.heap.size := HR3.out.lt
        have HAP : Hid (Apart w.heap.size (fun b => w1.heap.size ≤ b ∧ b < B) (fun b => b < w.heap.size) B wr.heap.size) :=
          ⟨by omega, fun h => by omega, fun h => by have := HBB.out; have := L1.out.below.size; omega, fun b h => h.2, fun b h => Nat.lt_of_lt_of_le h HW3.out.size, by have := HBB.out; have := L1.out.below.size; omega, HW3.out.size⟩
        have hal : Below wr.heap.size wr (wr.alloc (.cells #[.slice p1 l.length cap1, .int .i64 0] 43)) := (Below.refl _ _).alloc (Nat.le_refl _) _
        have HBO : Hid (Both (fun b => w1.heap.size ≤ b ∧ b < B) (fun b => b < w.heap.size) B wr.heap.size l 0 (wr.alloc (.cells #[.slice p1 l.length cap1, .int .i64 0] 43))) :=
          ⟨HR3.out.below hal, _, heap_alloc_last _ _, HB3.out.below hal, by show ¬ wr.heap.size < w.heap.size; have := HW3.out.size; omega, HOB.out⟩
        have HW4 := Lib.hid (HW3.out.trans (hal.mono HW3.out.size))
        clear hal hBw hgw hgn HB3 HR3 HOB
        go_wp2_with fail
        generalize (wr.alloc (.cells #[.slice p1 l.length cap1, .int .i64 0] 43)) = w4 at HBO HW4 ⊢
        generalize wr.heap.size = B2 at HAP HBO ⊢
        generalize (fun b => w1.heap.size ≤ b ∧ b < B) = lo at HAP HBO
        clear HBB HR2 L1 L2 HROW HGR HR HW3 HB
        go_loopw [9] (fun i wx => ∃ j : Nat, j ≤ n ∧ i = .int .i64 j ∧ (∃ l e, Both lo (fun b => b < w.heap.size) B B2 l e wx) ∧ Below w.heap.size w wx) (fun i _ => n - (intOf i).toNat)
        case atStart => exact ⟨0, Nat.zero_le _, rfl, ⟨_, _, HBO.out⟩, HW4.out⟩
        case round =>
          clear HBO HW4
          obtain ⟨j, hj, rfl, ⟨l3, e3, hbo⟩, hbx⟩ := hrel
          have HBO := Lib.hid hbo
          have HWX := Lib.hid hbx
          clear hbo hbx
          by_cases hlt : j < n
          · have HQX := Lib.hid (HQ.out.below HWX.out)
            obtain ⟨p', cap', hv, -, -, hq⟩ := HQX.out
            obtain ⟨bq, off, rfl, hcs⟩ := hq (by omega)
            simp only [Value.slice.injEq] at hv
            obtain ⟨rfl, -, rfl⟩ := hv
            obtain ⟨kind, most, hk1, hk2, hm⟩ := hcs j hlt
            clear hcs hq HQX
            obtain ⟨l5, e5, hask⟩ := ask_det w.heap.size lo (fun b => b < w.heap.size) B B2 e3 l3 kind most HAP.out hm
            have HASK := Lib.hid hask
            have hbq : bq < w.heap.size := by
              obtain ⟨p', cap', hv, -, -, hq⟩ := HQ.out
              obtain ⟨b', off', hpe, hc⟩ := hq (by omega)
              simp only [Value.slice.injEq] at hv
              obtain ⟨rfl, -, -⟩ := hv
              simp only [Option.some.injEq, Addr.mk.injEq] at hpe
              obtain ⟨rfl, -, -⟩ := hpe
              obtain ⟨k', m', hk', -⟩ := hc 0 (by omega)
              exact block_lt_of_cell hk'
            have HC1 : Hid (∀ w', Below w.heap.size wr w' → w'.cell? ⟨bq, off + j * 2, none⟩ = some (.int .i64 kind) ∧ w'.cell? ⟨bq, off + j * 2 + 1, none⟩ = some (.int .i64 most)) :=
              fun w' hb => ⟨by rw [hb.cell (p := ⟨bq, off + j * 2, none⟩) hbq]; exact hk1, by rw [hb.cell (p := ⟨bq, off + j * 2 + 1, none⟩) hbq]; exact hk2⟩
            clear hm hask hk1 hk2 hbq
            go_upto_region 15 with (fail)
            refine Ord.walk (AskF lo (fun b => b < w.heap.size) B B2 bq off n cap2 j kind most l5 e5) (AskR w.heap.size wr lo (fun b => b < w.heap.size) B B2 l3 e3) (fun w1 w2 => Both lo (fun b => b < w.heap.size) B B2 l5 e5 w1 → Both lo (fun b => b < w.heap.size) B B2 l5 e5 w2)
              (by kernel_rfl) (by kernel_rfl) ?fr ?hfr (fun k v w1 w2 hT h => askF_stable _ _ _ _ _ _ _ _ _ _ _ _ _ k v w1 w2 hT h) ⟨below_drew _ _, fun _ => ⟨HBO.out.1.below (below_drew _ _), HBO.out.2.below (below_drew _ _)⟩⟩ ?he ?hend
            case hfr =>
              intro xs
              simp only [Ord.fill, Act.put, List.setIfInBounds_toArray, List.set_cons_zero, List.set_cons_succ]
              rfl
            case he =>
              refine Ord.each_cons (fun D xs w1 hD hR hA K hK => ?_) ?_
              · -- 0
                go_simp
                exact hK _ _ ⟨_, rfl, fun h => h, askR_step hR _ (by decide), rfl⟩
              refine Ord.each_cons (fun D xs w1 hD hR hA K hK => ?_) ?_
              · -- 1
                go_simp
                exact hK _ _ ⟨_, rfl, fun h => h, askR_step hR _ (by decide), rfl⟩
              refine Ord.each_cons (fun D xs w1 hD hR hA K hK => ?_) ?_
              · -- 2
                go_simp
                exact hK _ _ ⟨_, rfl, fun h => h, askR_step hR _ (by decide), rfl⟩
              refine Ord.each_cons (fun D xs w1 hD hR hA K hK => ?_) ?_
              · -- 3
                go_simp
                exact hK _ _ ⟨_, rfl, fun h => h, askR_step hR _ (by decide), rfl⟩
              refine Ord.each_cons (fun D xs w1 hD hR hA K hK => ?_) ?_
              · -- 4
                simp only [List.filter_cons, List.filter_nil, Region.binds, if_true, Ord.ahead, AskF, and_true] at hA
                obtain ⟨q0, q1⟩ := hA
                simp only [q0, q1] at hK
                go_simp
                exact hK _ _ ⟨_, rfl, fun h => h, askR_step hR _ (by decide), rfl⟩
              refine Ord.each_cons (fun D xs w1 hD hR hA K hK => ?_) ?_
              · -- 5
                simp only [List.filter_cons, List.filter_nil, Region.binds, if_true, Ord.ahead, AskF, and_true] at hA
                have q0 := hA
                clear hA
                simp only [q0] at hK
                obtain ⟨c1, c2⟩ := HC1.out w1 hR.1
                go_simp
                exact hK _ _ ⟨_, rfl, fun h => h, askR_step hR _ (by decide), rfl⟩
              refine Ord.each_cons (fun D xs w1 hD hR hA K hK => ?_) ?_
              · -- 6
                simp only [List.filter_cons, List.filter_nil, Region.binds, if_true, Ord.ahead, AskF, and_true] at hA
                obtain ⟨q0, q1, q2⟩ := hA
                simp only [q0, q1, q2] at hK
                go_simp
                refine (HASK.out w1 (Nat.le_trans HWX.out.size hR.1.size) (hR.2 hD)).mono ?_
                rintro en w5 ⟨rfl, hboth, hbel⟩
                exact hK _ _ ⟨_, rfl, fun _ => hboth, ⟨hR.1.trans hbel, fun h => absurd h (by simp [Ord.wth])⟩, rfl, hboth⟩
              refine Ord.each_cons (fun D xs w1 hD hR hA K hK => ?_) ?_
              · -- 7
                simp only [List.filter_cons, List.filter_nil, Region.binds, if_true, Ord.ahead, AskF, and_true] at hA
                obtain ⟨q0, b0⟩ := hA
                have HBT := Lib.hid b0
                clear b0
                simp only [q0] at hK
                go_simp
                exact hK _ _ ⟨_, rfl, fun h => h, askR_step hR _ (by decide), rfl, HBT.out⟩
              refine Ord.each_cons (fun D xs w1 hD hR hA K hK => ?_) ?_
              · -- 8
                simp only [List.filter_cons, List.filter_nil, Region.binds, if_true, Ord.ahead, AskF, and_true] at hA
                obtain ⟨⟨q0, b0⟩, ⟨q1, b1⟩⟩ := hA
                have HBT := Lib.hid b0
                clear b0 b1
                simp only [q0, q1] at hK
                go_simp
                exact hK _ _ ⟨_, rfl, fun h => h, askR_step hR _ (by decide), rfl, HBT.out⟩
              refine Ord.each_cons (fun D xs w1 hD hR hA K hK => ?_) ?_
              · -- 9
                simp only [List.filter_cons, List.filter_nil, Region.binds, if_true, Ord.ahead, AskF, and_true] at hA
                obtain ⟨q0, b0⟩ := hA
                have HBT := Lib.hid b0
                clear b0
                simp only [q0] at hK
                go_simp
                exact hK _ _ ⟨_, rfl, fun h => h, askR_step hR _ (by decide), rfl, HBT.out⟩
              refine Ord.each_cons (fun D xs w1 hD hR hA K hK => ?_) ?_
              · -- 10
                simp only [List.filter_cons, List.filter_nil, Region.binds, if_true, Ord.ahead, AskF, and_true] at hA
                obtain ⟨⟨q0, b0⟩, ⟨q1, b1⟩, ⟨q2, b2⟩⟩ := hA
                have HBT := Lib.hid b0
                clear b0 b1 b2
                simp only [q0, q1] at hK
                go_simp
                refine (left_any _ _ _ _ _ HBT.out.1).mono ?_
                rintro en w5 ⟨rfl, rfl⟩
                exact hK _ _ ⟨_, rfl, fun h => h, askR_step hR _ (by decide), rfl, HBT.out⟩
              refine Ord.each_cons (fun D xs w1 hD hR hA K hK => ?_) ?_
              · -- 11
                simp only [List.filter_cons, List.filter_nil, Region.binds, if_true, Ord.ahead, AskF, and_true] at hA
                obtain ⟨q0, b0⟩ := hA
                have HBT := Lib.hid b0
                clear b0
                simp only [q0] at hK
                go_simp
                exact hK _ _ ⟨_, rfl, fun h => h, askR_step hR _ (by decide), rfl, HBT.out⟩
              refine Ord.each_cons (fun D xs w1 hD hR hA K hK => ?_) ?_
              · -- 12
                simp only [List.filter_cons, List.filter_nil, Region.binds, if_true, Ord.ahead, AskF, and_true] at hA
                obtain ⟨⟨q0, b0⟩, ⟨q1, b1⟩⟩ := hA
                have HBT := Lib.hid b0
                clear b0 b1
                simp only [q0, q1] at hK
                go_simp
                exact hK _ _ ⟨_, rfl, fun h => h, askR_step hR _ (by decide), rfl, HBT.out⟩
              refine Ord.each_cons (fun D xs w1 hD hR hA K hK => ?_) ?_
              · -- 13
                simp only [List.filter_cons, List.filter_nil, Region.binds, if_true, Ord.ahead, AskF, and_true] at hA
                obtain ⟨⟨q0, b0⟩, ⟨q1, b1⟩⟩ := hA
                have HBT := Lib.hid b0
                clear b0 b1
                simp only [q0, q1] at hK
                go_simp
                exact hK _ _ ⟨_, rfl, fun h => h, askR_step hR _ (by decide), rfl, HBT.out⟩
              refine Ord.each_cons (fun D xs w1 hD hR hA K hK => ?_) ?_
              · -- 14
                simp only [List.filter_cons, List.filter_nil, Region.binds, if_true, Ord.ahead, AskF, and_true] at hA
                obtain ⟨⟨q0, b0⟩, ⟨q1, b1⟩⟩ := hA
                have HBT := Lib.hid b0
                clear b0 b1
                simp only [q0, q1] at hK
                obtain ⟨s, hS⟩ := HBT.out.2
                obtain ⟨p5, c5, rfl, -, -, -⟩ := hS.2.1.form
                have c0 := cell2_0 hS.1
                clear hS
                go_simp
                exact hK _ _ ⟨_, rfl, fun h => h, askR_step hR _ (by decide), ⟨_, _, rfl⟩, HBT.out⟩
              refine Ord.each_cons (fun D xs w1 hD hR hA K hK => ?_) ?_
              · -- 15
                simp only [List.filter_cons, List.filter_nil, Region.binds, if_true, Ord.ahead, AskF, and_true] at hA
                obtain ⟨⟨⟨p5, c5, q0⟩, b0⟩, ⟨q1, b1⟩⟩ := hA
                have HBT := Lib.hid b0
                clear b0 b1
                simp only [q0, q1] at hK
                go_simp
                exact hK _ _ ⟨_, rfl, fun h => h, askR_step hR _ (by decide), rfl, HBT.out⟩
              refine Ord.each_cons (fun D xs w1 hD hR hA K hK => ?_) ?_
              · -- 16
                simp only [List.filter_cons, List.filter_nil, Region.binds, if_true, Ord.ahead, AskF, and_true] at hA
                obtain ⟨⟨q0, b0⟩, ⟨q1, b1⟩, ⟨q2, b2⟩⟩ := hA
                have HBT := Lib.hid b0
                clear b0 b1 b2
                simp only [q0, q1, q2] at hK
                go_simp
                exact hK _ _ ⟨_, rfl, fun h => h, askR_step hR _ (by decide), rfl, HBT.out⟩
              refine Ord.each_cons (fun D xs w1 hD hR hA K hK => ?_) ?_
              · -- 17
                simp only [List.filter_cons, List.filter_nil, Region.binds, if_true, Ord.ahead, AskF, and_true] at hA
                obtain ⟨⟨q0, b0⟩, ⟨q1, b1⟩⟩ := hA
                have HBT := Lib.hid b0
                clear b0 b1
                simp only [q0, q1] at hK
                go_simp
                exact hK _ _ ⟨_, rfl, fun h => h, askR_step hR _ (by decide), rfl, HBT.out⟩
              refine Ord.each_cons (fun D xs w1 hD hR hA K hK => ?_) ?_
              · -- 18
                simp only [List.filter_cons, List.filter_nil, Region.binds, if_true, Ord.ahead, AskF, and_true] at hA
                obtain ⟨⟨q0, b0⟩, ⟨q1, b1⟩⟩ := hA
                have HBT := Lib.hid b0
                clear b0 b1
                simp only [q0, q1] at hK
                go_simp
                exact hK _ _ ⟨_, rfl, fun h => h, askR_step hR _ (by decide), rfl, HBT.out⟩
              refine Ord.each_cons (fun D xs w1 hD hR hA K hK => ?_) ?_
              · -- 19
                simp only [List.filter_cons, List.filter_nil, Region.binds, if_true, Ord.ahead, AskF, and_true] at hA
                obtain ⟨q0, b0⟩ := hA
                have HBT := Lib.hid b0
                clear b0
                simp only [q0] at hK
                go_simp
                exact hK _ _ ⟨_, rfl, fun h => h, askR_step hR _ (by decide), rfl, HBT.out⟩
              refine Ord.each_cons (fun D xs w1 hD hR hA K hK => ?_) ?_
              · -- 20
                simp only [List.filter_cons, List.filter_nil, Region.binds, if_true, Ord.ahead, AskF, and_true] at hA
                obtain ⟨⟨q0, b0⟩, ⟨q1, b1⟩, ⟨q2, b2⟩⟩ := hA
                have HBT := Lib.hid b0
                clear b0 b1 b2
                simp only [q0, q1] at hK
                go_simp
                refine (err_any _ _ _ _ _ HBT.out.1).mono ?_
                rintro en w5 ⟨rfl, rfl⟩
                exact hK _ _ ⟨_, rfl, fun h => h, askR_step hR _ (by decide), rfl, HBT.out⟩
              refine Ord.each_cons (fun D xs w1 hD hR hA K hK => ?_) ?_
              · -- 21
                simp only [List.filter_cons, List.filter_nil, Region.binds, if_true, Ord.ahead, AskF, and_true] at hA
                obtain ⟨q0, b0⟩ := hA
                have HBT := Lib.hid b0
                clear b0
                simp only [q0] at hK
                go_simp
                exact hK _ _ ⟨_, rfl, fun h => h, askR_step hR _ (by decide), rfl, HBT.out⟩
              refine Ord.each_cons (fun D xs w1 hD hR hA K hK => ?_) ?_
              · -- 22
                simp only [List.filter_cons, List.filter_nil, Region.binds, if_true, Ord.ahead, AskF, and_true] at hA
                obtain ⟨⟨q0, b0⟩, ⟨q1, b1⟩⟩ := hA
                have HBT := Lib.hid b0
                clear b0 b1
                simp only [q0, q1] at hK
                go_simp
                exact hK _ _ ⟨_, rfl, fun h => h, askR_step hR _ (by decide), rfl, HBT.out⟩
              refine Ord.each_cons (fun D xs w1 hD hR hA K hK => ?_) ?_
              · -- 23
                simp only [List.filter_cons, List.filter_nil, Region.binds, if_true, Ord.ahead, AskF, and_true] at hA
                obtain ⟨⟨q0, b0⟩, ⟨q1, b1⟩⟩ := hA
                have HBT := Lib.hid b0
                clear b0 b1
                simp only [q0, q1] at hK
                go_simp
                exact hK _ _ ⟨_, rfl, fun h => h, askR_step hR _ (by decide), rfl, HBT.out⟩
              refine Ord.each_cons (fun D xs w1 hD hR hA K hK => ?_) ?_
              · -- 24
                simp only [List.filter_cons, List.filter_nil, Region.binds, if_true, Ord.ahead, AskF, and_true] at hA
                obtain ⟨⟨q0, b0⟩, ⟨q1, b1⟩⟩ := hA
                have HBT := Lib.hid b0
                clear b0 b1
                simp only [q0, q1] at hK
                obtain ⟨s, hS⟩ := HBT.out.2
                have c1 := cell2_1 hS.1
                clear hS
                go_simp
                exact hK _ _ ⟨_, rfl, fun h => h, askR_step hR _ (by decide), rfl, HBT.out⟩
              refine Ord.each_cons (fun D xs w1 hD hR hA K hK => ?_) ?_
              · -- 25
                simp only [List.filter_cons, List.filter_nil, Region.binds, if_true, Ord.ahead, AskF, and_true] at hA
                obtain ⟨⟨q0, b0⟩, ⟨q1, b1⟩, ⟨q2, b2⟩⟩ := hA
                have HBT := Lib.hid b0
                clear b0 b1 b2
                simp only [q0, q1, q2] at hK
                go_simp
                exact hK _ _ ⟨_, rfl, fun h => h, askR_step hR _ (by decide), rfl, HBT.out⟩
              refine Ord.each_cons (fun D xs w1 hD hR hA K hK => ?_) ?_
              · -- 26
                simp only [List.filter_cons, List.filter_nil, Region.binds, if_true, Ord.ahead, AskF, and_true] at hA
                obtain ⟨⟨q0, b0⟩, ⟨q1, b1⟩⟩ := hA
                have HBT := Lib.hid b0
                clear b0 b1
                simp only [q0, q1] at hK
                go_simp
                exact hK _ _ ⟨_, rfl, fun h => h, askR_step hR _ (by decide), rfl, HBT.out⟩
              exact Ord.each_nil
            case hend =>
              intro D xs w1 hR hF
              have h26 := (hF 26 (by decide)).2
              simp only [AskF] at h26
              obtain ⟨q0, hb⟩ := h26
              have HB5 := Lib.hid hb
              have HW5 := Lib.hid (HWX.out.trans hR.1)
              clear hb hF hR

              rw [q0]
              go_wp2
              go_roundw
              case rel => exact ⟨j + 1, by omega, by go_num, ⟨_, _, HB5.out⟩, HW5.out⟩
              case measure => simp [intOf]; omega
          · obtain rfl : j = n := by omega
            go_wp2_with fail
            refine (known_any _).mono ?_
            rintro e w5 ⟨rfl, hb⟩
            have HW5 := Lib.hid (HWX.out.trans (hb.mono HWX.out.size))
            clear hb
            go_wp2_with fail
            go_ret
            exact ⟨rfl, HW5.out⟩
end Go.Proofs.Ytpakohlniaiclaa
