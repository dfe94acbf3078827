/- A reader of bytes, and how it begins, over any world. Conditions: the slice's cells hold the bytes. -/
import Derived.Test.YtkchoelegdknoaaByte
import Derived.Test.YtkchoelegdknoaaCodePure
import Derived.Lib.SliceRun
import Derived.Deep.QuietTactic
import Derived.BigQuiet
import Derived.StillTailTactics
namespace Go.Proofs.Ytkchoelegdknoaa
open Go.RowKit

/-- The block B is a reader (of type T) that holds the slice s, which reads as the bytes l, and the error e; its bytes lie in a block of lo, B itself is none of lo. -/
def RdS (T : TypeId) (lo : Nat → Prop) (w : World) (B : Nat) (s : Value) (l : List Nat) (e : Nat) : Prop :=
  w.heap[B]? = some (.cells #[s, .int .i64 (e : Int)] T (0, 0)) ∧ Bts w s l ∧ ¬ lo B ∧ (0 < l.length → ∀ b, s.ownBlock = some b → lo b)
def Rd (T : TypeId) (lo : Nat → Prop) (w : World) (B : Nat) (l : List Nat) (e : Nat) : Prop := ∃ s, RdS T lo w B s l e

theorem Rd.lt {T : TypeId} {lo : Nat → Prop} {B e : Nat} {w : World} {l : List Nat} (h : Rd T lo w B l e) : B < w.heap.size := by
  obtain ⟨s, hh, _⟩ := h; exact lt_of_block hh

theorem RdS.grown {T : TypeId} {lo : Nat → Prop} {B e : Nat} {w w' : World} {s : Value} {l : List Nat} {row : Option Nat} (h : RdS T lo w B s l e) (hg : w.grownBy w' row) (hr : ∀ g, row = some g → ¬ lo g ∧ g ≠ B) : RdS T lo w' B s l e := by
  obtain ⟨hh, hB, hlo, hb⟩ := h
  refine ⟨?_, hB.grown hg ?_, hlo, hb⟩
  · rw [hg.block B (lt_of_block hh) ?_]
    · exact hh
    · intro he
      exact (hr B he.symm).2 rfl
  · intro h0 he
    obtain ⟨p, cap, hv, _, _, hp⟩ := hB.form
    obtain ⟨b, off, hpe, _⟩ := hp h0
    subst hpe
    have hown : s.ownBlock = some b := by rw [hv]; rfl
    exact (hr b (by rw [← he, hown])).1 (hb h0 b hown)
theorem Rd.grown {T : TypeId} {lo : Nat → Prop} {B e : Nat} {w w' : World} {l : List Nat} {row : Option Nat} (h : Rd T lo w B l e) (hg : w.grownBy w' row) (hr : ∀ g, row = some g → ¬ lo g ∧ g ≠ B) : Rd T lo w' B l e := by
  obtain ⟨s, hs⟩ := h; exact ⟨s, hs.grown hg hr⟩
theorem RdS.below {T : TypeId} {lo : Nat → Prop} {B e : Nat} {w w' : World} {s : Value} {l : List Nat} (h : RdS T lo w B s l e) (hb : Below w.heap.size w w') : RdS T lo w' B s l e :=
  h.grown (row := none) (grownBy_below hb none) (fun g hg => by cases hg)

theorem Rd.below {T : TypeId} {lo : Nat → Prop} {B e : Nat} {w w' : World} {l : List Nat} (h : Rd T lo w B l e) (hb : Below w.heap.size w w') : Rd T lo w' B l e :=
  h.grown (row := none) (grownBy_below hb none) (fun g hg => by cases hg)

theorem setCell2_0 {w : World} {B : Nat} {a b u : Value} {T : TypeId} (h : w.heap[B]? = some (.cells #[a, b] T (0, 0))) : (w.setCell ⟨B, 0, none⟩ u).heap[B]? = some (.cells #[u, b] T (0, 0)) := by
  have hlt := lt_of_block h
  have h' : w.heap[B] = .cells #[a, b] T (0, 0) := by simpa [Array.getElem?_eq_getElem hlt] using h
  show (w.heap.modify B _)[B]? = _
  rw [Array.getElem?_eq_getElem (by simpa using hlt), Array.getElem_modify_self, h']
  rfl
theorem setCell2_1 {w : World} {B : Nat} {a b u : Value} {T : TypeId} (h : w.heap[B]? = some (.cells #[a, b] T (0, 0))) : (w.setCell ⟨B, 1, none⟩ u).heap[B]? = some (.cells #[a, u] T (0, 0)) := by
  have hlt := lt_of_block h
  have h' : w.heap[B] = .cells #[a, b] T (0, 0) := by simpa [Array.getElem?_eq_getElem hlt] using h
  show (w.heap.modify B _)[B]? = _
  rw [Array.getElem?_eq_getElem (by simpa using hlt), Array.getElem_modify_self, h']
  rfl
theorem cell2_0 {w : World} {B : Nat} {a b : Value} {T : TypeId} (h : w.heap[B]? = some (.cells #[a, b] T (0, 0))) : w.cell? ⟨B, 0, none⟩ = some a := by simp [World.cell?, h]
theorem cell2_1 {w : World} {B : Nat} {a b : Value} {T : TypeId} (h : w.heap[B]? = some (.cells #[a, b] T (0, 0))) : w.cell? ⟨B, 1, none⟩ = some b := by simp [World.cell?, h]
theorem free2 {w : World} {B : Nat} {a b : Value} {T : TypeId} (h : w.heap[B]? = some (.cells #[a, b] T (0, 0))) (o : Nat) : w.frozen? ⟨B, o, none⟩ = false := by simp [World.frozen?, h]

/-- The reader's error is turned. -/
theorem Rd.fail {T : TypeId} {lo : Nat → Prop} {B e : Nat} {w : World} {l : List Nat} (h : Rd T lo w B l e) (e' : Nat) : Rd T lo (w.setCell ⟨B, 1, none⟩ (.int .i64 (e' : Int))) B l e' := by
  obtain ⟨s, hh, hB, hlo, hb⟩ := h
  exact ⟨s, setCell2_1 hh, hB.grown (grownBy_setCell w B 1 _) (fun h0 he => hlo (hb h0 B he)), hlo, hb⟩

/-- The reader goes on, behind n bytes; what its bytes are then is what a reslice makes of them. -/
theorem Rd.move {T : TypeId} {lo : Nat → Prop} {B e : Nat} {w : World} {s s' : Value} {l' : List Nat} (hh : w.heap[B]? = some (.cells #[s, .int .i64 (e : Int)] T (0, 0))) (hB : Bts w s' l') (hlo : ¬ lo B) (hb : 0 < l'.length → ∀ b, s'.ownBlock = some b → lo b) :
    Rd T lo (w.setCell ⟨B, 0, none⟩ s') B l' e :=
  ⟨s', setCell2_0 hh, hB.grown (grownBy_setCell w B 0 _) (fun h0 he => hlo (hb h0 B he)), hlo, hb⟩

theorem RdS.move {T : TypeId} {lo : Nat → Prop} {B e : Nat} {w : World} {s s' : Value} {l l' : List Nat} (h : RdS T lo w B s l e) (hB : Bts w s' l') (ho : s'.ownBlock = s.ownBlock) (hl : l'.length ≤ l.length := by (simp only [List.length_take, List.length_drop, List.length_tail, List.length_nil]; omega)) :
    Rd T lo (w.setCell ⟨B, 0, none⟩ s') B l' e := Rd.move h.1 hB h.2.2.1 (fun h0 b hb => h.2.2.2 (by omega) b (by rw [← ho]; exact hb))

theorem below_drewN (B : Nat) (w : World) (n : Nat) : Below B w (w.drewN n) := ⟨rfl, rfl, rfl, Nat.le_refl _, fun _ _ => rfl⟩
theorem below_drew (B : Nat) (w : World) : Below B w w.drew := ⟨rfl, rfl, rfl, Nat.le_refl _, fun _ _ => rfl⟩
theorem calls_quiet {P : Program} {f : FuncId} {args : Array Value} {w : World} {n : Nat} {v : Value}
    (h : Calls P f args (w.drewN n) fun e w' => e = .returned v ∧ w.drewN n = w') : Calls P f args (w.drewN n) fun e w'' => e = .returned v ∧ ∃ m, w'' = w.drewN m :=
  Calls.quiet_of_same (h.mono fun _ _ ⟨he, hm⟩ => ⟨he, hm.symm⟩)
theorem calls_still {P : Program} {f : FuncId} {args : Array Value} {w : World} {v : Value}
    (h : Calls P f args w fun e w' => e = .returned v ∧ w = w') : Calls P f args w fun e w'' => e = .returned v ∧ w'' = w :=
  h.mono fun _ _ ⟨he, hm⟩ => ⟨he, hm.symm⟩

set_option maxHeartbeats 400000 in
set_option maxRecDepth 20000 in
theorem clone_any (v : Value) (l : List Nat) (w : World) (hB : Bts w v l) :
    Calls Try.prog 54 #[v] w fun e w' => ∃ v', e = .returned v' ∧ Own w.heap.size w' v' l ∧ Below w.heap.size w w' := by
  have HB := Lib.hid hB
  obtain ⟨p, cap, rfl, hr, hn, hp⟩ := hB.form
  have HL := Lib.hid hB.len
  have hq := fun (w : World) (a : Option Addr) (n c : Nat) => Lib.run_eql_slice_nil (P := Try.prog) w 26 5 a n c 0 0 Try.underlying26
  cases p with
  | none =>
    obtain rfl := hn rfl
    have hl0 : l.length = 0 := by omega
    obtain rfl : l = [] := List.eq_nil_of_length_eq_zero hl0
    clear hB hp hn
    go_enter Try.func54, Try.ntmps54
    go_wp2
    go_ret
    exact ⟨_, rfl, own_nil _ _, Below.refl _ _⟩
  | some ad =>
    have hown0 := own_empty w w.heap.size 0 #[] (Nat.le_refl _) (Nat.zero_le _) rfl
    have HO := Lib.hid hown0
    have hb0 : Below w.heap.size w (w.alloc (.cells #[] 5)) := (Below.refl _ _).alloc (Nat.le_refl _) _
    have HW0 := Lib.hid hb0
    clear hr hn hp hB hown0 hb0
    go_enter Try.func54, Try.ntmps54
    go_upto_region 3 with (fail)
    iterate 7 go_step
    refine wpList_append_Own rfl (.tmp 5) (.tmp 6) rfl w.heap.size _ [] rfl HO.out _ l rfl (HB.out.below HW0.out) (by have := HL.out; simpa using this) HW0.out.size ?_
    intro v1 w1 hown1 hb1 _
    rw [List.nil_append] at hown1
    have HO1 := Lib.hid hown1
    have HW1 := Lib.hid (HW0.out.trans hb1)
    clear hown1 hb1
    go_wp2
    go_ret
    exact ⟨_, rfl, HO1.out, HW1.out⟩

set_option maxHeartbeats 400000 in
set_option maxRecDepth 20000 in
theorem newReader_any (v : Value) (l : List Nat) (w : World) (hB : Bts w v l) :
    Calls Try.prog 29 #[v] w fun e w' => ∃ B, e = .returned (.pointer (some ⟨B, 0, none⟩)) ∧ Rd 77 (fun b => w.heap.size ≤ b ∧ b < B) w' B l 0 ∧ w.heap.size ≤ B ∧ Below w.heap.size w w' := by
  have HB := Lib.hid hB
  clear hB
  go_enter Try.func29, Try.ntmps29
  go_wp2_with fail
  refine (clone_any _ l _ HB.out).mono ?_
  rintro e w1 ⟨v1, rfl, hO1, hb1⟩
  have HO1 := Lib.hid hO1
  have HW1 := Lib.hid hb1
  clear hO1 hb1
  obtain ⟨p, cap, rfl, hr, hn, hp⟩ := HO1.out.bts.form
  clear hr hn hp
  go_wp2
  go_ret
  refine ⟨_, rfl, ⟨_, heap_alloc_last _ _, HO1.out.bts.below ((Below.refl _ _).alloc (Nat.le_refl _) _), (fun h => Nat.lt_irrefl _ h.2), fun _ b hb => ?_⟩, HW1.out.size, HW1.out.alloc HW1.out.size _⟩
  exact World.ownsRow.lt HO1.out.own b hb


set_option maxHeartbeats 400000 in
set_option maxRecDepth 20000 in
theorem err_any (lo : Nat → Prop) (B e : Nat) (l : List Nat) (w : World) (hR : Rd 77 lo w B l e) :
    Calls Try.prog 71 #[.pointer (some ⟨B, 0, none⟩)] w fun en w' => en = .returned (.int .i64 (e : Int)) ∧ w = w' := by
  obtain ⟨s, hh, hB, -, -⟩ := hR
  have hc1 := cell2_1 hh
  clear hB hh
  go_enter Try.func71, Try.ntmps71
  go_wp2
  go_ret
  exact ⟨rfl, rfl⟩


set_option maxHeartbeats 400000 in
set_option maxRecDepth 20000 in
theorem err_nil (w : World) : Calls Try.prog 71 #[.pointer none] w fun e w' => e = .returned (.int .i64 1) ∧ w = w' := by
  go_enter Try.func71, Try.ntmps71
  go_wp2
  go_ret
  exact ⟨rfl, rfl⟩
end Go.Proofs.Ytkchoelegdknoaa
