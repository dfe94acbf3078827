/- The document's blank page, what pages are alike, where they lie; a law's bodies. Conditions: none. -/
import Derived.Test.YtkmkbjjpbodbfaaByte
import Derived.Test.YtkmkbjjpbodbfaaTouch
import Derived.Test.YtkmkbjjpbodbfaaDkBase
import Derived.Test.YtkmkbjjpbodbfaaPagePure
import Derived.Test.YtkmkbjjpbodbfaaCodeRd
import Derived.WideShapes
import Derived.BigQuiet
import Derived.Deep.QuietTactic
import Derived.StillTailTactics
namespace Go.Proofs.Ytkmkbjjpbodbfaa
open Go.RowKit

theorem _root_.Go.RowKit.Below.goN {B0 : Nat} {a b : World} (h : Below B0 a b) (n : Nat) : Below B0 a (b.drewN n) :=
  ⟨h.os, h.tape, h.output, h.size, fun k hk => h.block k hk⟩
theorem _root_.Go.RowKit.Below.go1 {B0 : Nat} {a b : World} (h : Below B0 a b) : Below B0 a b.drew := ⟨h.os, h.tape, h.output, h.size, fun k hk => h.block k hk⟩

/-- A page's value. -/
abbrev PgV (n : Nat) (v : Value) : Value := .agg #[.int .u64 (n : Int), v]

theorem str_inj {a b : List Nat} (ha : ∀ x ∈ a, x < 256) (hb : ∀ x ∈ b, x < 256) (h : strOfNums (a.map fun x : Nat => (x : Int)) = strOfNums (b.map fun x : Nat => (x : Int))) : a = b := by
  have h2 := congrArg (fun s : ByteArray => s.data.toList.map UInt8.toNat) h
  simp only [strOfNums_data, List.map_map] at h2
  have e : ∀ l : List Nat, (∀ x ∈ l, x < 256) → l.map (UInt8.toNat ∘ (fun n : Int => UInt8.ofNat n.toNat) ∘ fun x : Nat => (x : Int)) = l := by
    intro l hl
    rw [List.map_congr_left (g := id), List.map_id]
    intro x hx
    have := hl x hx
    simp
    omega
  rw [e a ha, e b hb] at h2
  exact h2
theorem str_ne {a b : List Nat} (ha : ∀ x ∈ a, x < 256) (hb : ∀ x ∈ b, x < 256) (h : a ≠ b) : ((strOfNums (a.map fun x : Nat => (x : Int))).toList == (strOfNums (b.map fun x : Nat => (x : Int))).toList) = false := by
  rw [beq_eq_false_iff_ne]
  intro e
  rw [ByteArray.toList_eq, ByteArray.toList_eq] at e
  exact h (str_inj ha hb (Go.WideShapes.bytes_inj e))
theorem ret_bool {a b : Bool} (h : a = b) : Ending.returned (.bool a) = .returned (.bool b) := by rw [h]
theorem below_two (w : World) (o1 o2 : Obj) : Below w.heap.size w ((w.alloc o1).alloc o2) := ((Below.refl _ _).alloc (Nat.le_refl _) _).alloc (by simp) _

def bv (x : Nat) : Value := .int .u8 (x : Int)
/-- A row of bytes of the call's own, by its block. -/
theorem own_blk {base g : Nat} {w : World} {l : List Nat} (h : w.heap[g]? = some (.cells (l.map bv).toArray 5 (0, 0))) (hg : base ≤ g) (hs : ∀ x ∈ l, x < 256) (hl : l.length ≤ 140737488355328) : Own base w (.slice (some ⟨g, 0, none⟩) l.length l.length) l :=
  ⟨⟨by simp [bytesV], Or.inr ⟨g, l.length, (l.map bv).toArray, rfl, hg, h, Nat.le_refl _, by unfold maxLen; omega, by simp, by simp only [Nat.mul_one]; rw [List.take_of_length_le (by simp)]; rfl⟩⟩, hs, hl⟩
theorem made_one (z : Value) (n : Nat) : madeCells #[z] n = (List.replicate n z).toArray := by
  apply Array.ext'
  rw [toList_madeCells_one]
theorem made_bytes (n : Nat) (hn : n ≤ 65536) (W : World) : (Instr.makeSlice 23 (.int .i64 (n : Int)) (.int .i64 (n : Int))).run Try.prog W = .ok (.slice (some ⟨W.heap.size, 0, none⟩) n n) (W.alloc (.cells ((Pg.zeros n).map bv).toArray 5)) := by
  obtain ⟨i0, hi, hz0, hz1, hz2⟩ := info_parts info5
  have h := run_makeSlice (P := Try.prog) W 23 5 i0 _ Try.underlying23 hi hz0 .i64 .i64 n n (by omega) (Int.le_refl _) (by rw [hz1]; omega) (by rw [hz2]; omega) (by omega)
  rw [Int.toNat_natCast, hz1, Nat.mul_one] at h
  rw [h]
  have e : madeCells #[Value.int .u8 0] n = ((Pg.zeros n).map bv).toArray := by
    rw [show ((Pg.zeros n).map bv).toArray = (List.replicate n (Value.int .u8 0)).toArray by unfold Pg.zeros; rw [List.map_replicate]; rfl]
    exact made_one _ n
  congr 3
/-- .. which are of the call's own. -/
theorem made_own (n : Nat) (hn : n ≤ 65536) (W : World) : Own W.heap.size (W.alloc (.cells ((Pg.zeros n).map bv).toArray 5)) (.slice (some ⟨W.heap.size, 0, none⟩) n n) (Pg.zeros n) := by
  have h := own_blk (base := W.heap.size) (w := W.alloc (.cells ((Pg.zeros n).map bv).toArray 5)) (l := Pg.zeros n) (heap_alloc_last _ _) (Nat.le_refl _) (Pg.zeros_lt n) (by rw [Pg.zeros_length]; omega)
  rwa [Pg.zeros_length] at h

/-- A block of two cells, both written. -/
theorem set2 {w : World} {B : Nat} {a b x y : Value} {T : TypeId} (h : w.heap[B]? = some (.cells #[a, b] T (0, 0))) :
    ((w.setCell ⟨B, 0, none⟩ x).setCell ⟨B, 1, none⟩ y).heap[B]? = some (.cells #[x, y] T (0, 0)) ∧ w.grownBy ((w.setCell ⟨B, 0, none⟩ x).setCell ⟨B, 1, none⟩ y) (some B) :=
  ⟨setCell2_1 (setCell2_0 h), grownBy_trans (grownBy_setCell _ _ _ _) (grownBy_setCell _ _ _ _)⟩

set_option maxHeartbeats 400000 in
set_option maxRecDepth 20000 in
theorem refBlank_any (w : World) : Calls Try.prog 14 #[] w fun e w' => ∃ v, e = .returned (PgV 0 v) ∧ Own w.heap.size w' v (Pg.zeros 500) ∧ Below w.heap.size w w' := by
  obtain ⟨W, hW⟩ : ∃ W, W = w.alloc (.cells #[.int .u64 0, .slice none 0 0] 25) := ⟨_, rfl⟩
  have hmk : (Instr.makeSlice 23 (.int .i64 500) (.int .i64 500)).run Try.prog (w.alloc (.cells #[.int .u64 0, .slice none 0 0] 25)) = .ok (.slice (some ⟨(w.alloc (.cells #[.int .u64 0, .slice none 0 0] 25)).heap.size, 0, none⟩) 500 500) _ := made_bytes 500 (by decide) _
  have HO := Lib.hid (made_own 500 (by decide) W)
  have hr : W.heap[w.heap.size]? = some (.cells #[.int .u64 0, .slice none 0 0] 25 (0, 0)) := by rw [hW]; exact heap_alloc_last _ _
  have hb : Below w.heap.size w W := by rw [hW]; exact (Below.refl _ _).alloc (Nat.le_refl _) _
  have hsz := lt_of_block hr
  rw [← hW] at hmk
  obtain ⟨W1, hW1⟩ : ∃ W1, W1 = W.alloc (.cells ((Pg.zeros 500).map bv).toArray 5) := ⟨_, rfl⟩
  have hb1 : Below W.heap.size W W1 := by rw [hW1]; exact (Below.refl _ _).alloc (Nat.le_refl _) _
  have hr1 : W1.heap[w.heap.size]? = some (.cells #[.int .u64 0, .slice none 0 0] 25 (0, 0)) := by rw [hb1.block _ (lt_of_block hr)]; exact hr
  rw [← hW1] at hmk HO
  obtain ⟨h2, hg2⟩ := set2 (x := .int .u64 0) (y := .slice (some ⟨W.heap.size, 0, none⟩) 500 500) hr1
  have q0 := cell2_0 h2
  have q1 := cell2_1 h2
  have HG := Lib.hid hg2
  have HQ0 := Lib.hid q0
  have HQ1 := Lib.hid q1
  clear h2 hg2 q0 q1
  go_enter Try.func14, Try.ntmps14
  go_wp2_with fail
  rw [← hW, hmk]
  have c0 := cell2_0 hr1
  have c1 := cell2_1 hr1
  have f0 := free2 hr1 0
  have f1 := free2 hr1 1
  clear hW1 hmk hr hr1 hW
  go_wp2_with fail
  have q0 := HQ0.out
  have q1 := HQ1.out
  refine bodyPost_ret (v := PgV 0 (.slice (some ⟨W.heap.size, 0, none⟩) 500 500)) (by simp [results, Try.results14, go_sem, q0, q1]) rfl ⟨_, rfl, ?_, ?_⟩
  · exact (HO.out.from (Nat.le_of_lt hsz)).grown HG.out (Or.inr (by simp [Value.ownBlock]; omega))
  · exact below_grown (hb.trans (hb1.mono hb.size)) HG.out (by have := hb1.size; omega) (Nat.le_refl _)

/-- Are pages alike? -/
def Pg.same (n1 : Nat) (s : List Nat) (n2 : Nat) (t : List Nat) : Bool := decide (n1 = n2 ∧ s = t)
theorem Pg.same_key {n1 n2 : Nat} {s t : List Nat} (h : n1 ≠ n2) : Pg.same n1 s n2 t = false := decide_eq_false fun e => h e.1
theorem Pg.same_body {n1 n2 : Nat} {s t : List Nat} (h : s ≠ t) : Pg.same n1 s n2 t = false := decide_eq_false fun e => h e.2
theorem Pg.same_self (n : Nat) (s : List Nat) : Pg.same n s n s = true := decide_eq_true ⟨rfl, rfl⟩

set_option maxHeartbeats 1600000 in
set_option maxRecDepth 20000 in
theorem refSame_any (k1 k2 : Nat) (m1 m2 : Value) (s t : List Nat) (w : World) (hA : Bts w m1 s) (hB : Bts w m2 t) :
    Calls Try.prog 11 #[PgV k1 m1, PgV k2 m2] w fun e w' => e = .returned (.bool (Pg.same k1 s k2 t)) ∧ Below w.heap.size w w' := by
  have HW := Lib.hid (below_two w (.cells #[.int .u64 (k1 : Int), m1] 25) (.cells #[.int .u64 (k2 : Int), m2] 25))
  have e1 := strOf_conv (hA.below HW.out)
  have e2 := strOf_conv (hB.below HW.out)
  have hne := fun h => str_ne hA.small hB.small h
  obtain ⟨q1, d1, rfl, -, -, -⟩ := hA.form
  obtain ⟨q2, d2, rfl, -, -, -⟩ := hB.form
  clear hA hB
  by_cases hk : k1 = k2
  · subst hk
    by_cases hs : s = t
    · subst hs
      rw [Pg.same_self]
      clear hne
      generalize strOfNums (s.map fun x : Nat => (x : Int)) = S at *
      go_enter Try.func11, Try.ntmps11
      go_wp2_with fail
      go_ret
      exact ⟨rfl, HW.out⟩
    · rw [Pg.same_body hs]
      have hq := hne hs
      clear hne
      generalize strOfNums (s.map fun x : Nat => (x : Int)) = S at *
      generalize strOfNums (t.map fun x : Nat => (x : Int)) = T at *
      go_enter Try.func11, Try.ntmps11
      go_wp2_with fail
      go_ret
      exact ⟨rfl, HW.out⟩
  · rw [Pg.same_key hk]
    have hk' : ¬ (k1 : Int) = (k2 : Int) := by omega
    have hk2 : ((k1 : Int) == (k2 : Int)) = false := by rw [beq_eq_false_iff_ne]; omega
    clear e1 e2 hne
    go_enter Try.func11, Try.ntmps11
    go_wp2_with fail
    go_ret
    exact ⟨rfl, HW.out⟩

end Go.Proofs.Ytkmkbjjpbodbfaa
