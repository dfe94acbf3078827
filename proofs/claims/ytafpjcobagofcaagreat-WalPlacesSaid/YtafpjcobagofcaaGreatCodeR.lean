/- A reader of bytes, and how it begins, over any world. Conditions: the slice's cells hold the bytes. What the program's and the document's count at the beginning of bytes is, over any world. Conditions: the slice's cells hold the bytes. -/
import Derived.Test.YtafpjcobagofcaaGreatBase
import Derived.Test.YtafpjcobagofcaaGreatCodePure
import Derived.Lib.SliceRun
import Derived.Deep.QuietTactic
import Derived.BigQuiet
import Derived.StillTailTactics
import Derived.Test.YtafpjcobagofcaaGreatCodeP
namespace Go.Proofs.YtafpjcobagofcaaGreat
open Go.RowKit

/-- The block B is a reader (of type T) that holds the slice s, which reads as the bytes l, and the error e; its bytes lie in a block of lo, B itself is none of lo. -/
def RdS (T : TypeId) (lo : Nat → Prop) (w : World) (B : Nat) (s : Value) (l : List Nat) (e : Nat) : Prop :=
  w.heap[B]? = some (.cells #[s, .int .i64 (e : Int)] T (0, 0)) ∧ Bts w s l ∧ ¬ lo B ∧ (0 < l.length → ∀ b, s.ownBlock = some b → lo b)
def Rd (T : TypeId) (lo : Nat → Prop) (w : World) (B : Nat) (l : List Nat) (e : Nat) : Prop := ∃ s, RdS T lo w B s l e

theorem Rd.lt {T : TypeId} {lo : Nat → Prop} {B e : Nat} {w : World} {l : List Nat} (h : Rd T lo w B l e) : B < w.heap.size := by
  obtain ⟨s, hh, _⟩ := h; exact lt_of_block hh

theorem RdS.grown {T : TypeId} {lo : Nat → Prop} {B e : Nat} {w w' : World} {s : Value} {l : List Nat} {row : Option Nat} (h : RdS T lo w B s l e) (hg : w.grownBy w' row) (hr : ∀ g, row = some g → ¬ lo g ∧ g ≠ B) : RdS T lo w' B s l e := by
  obtain ⟨hh, hB, hlo, hb⟩ := h
  refine ⟨?_, hB.grown hg ?_, hlo, hb⟩
  · rw [hg.block B (lt_of_block hh) ?_]
    · exact hh
    · intro he
      exact (hr B he.symm).2 rfl
  · intro h0 he
    obtain ⟨p, cap, hv, _, _, hp⟩ := hB.form
    obtain ⟨b, off, hpe, _⟩ := hp h0
    subst hpe
    have hown : s.ownBlock = some b := by rw [hv]; rfl
    exact (hr b (by rw [← he, hown])).1 (hb h0 b hown)
theorem Rd.grown {T : TypeId} {lo : Nat → Prop} {B e : Nat} {w w' : World} {l : List Nat} {row : Option Nat} (h : Rd T lo w B l e) (hg : w.grownBy w' row) (hr : ∀ g, row = some g → ¬ lo g ∧ g ≠ B) : Rd T lo w' B l e := by
  obtain ⟨s, hs⟩ := h; exact ⟨s, hs.grown hg hr⟩
theorem RdS.below {T : TypeId} {lo : Nat → Prop} {B e : Nat} {w w' : World} {s : Value} {l : List Nat} (h : RdS T lo w B s l e) (hb : Below w.heap.size w w') : RdS T lo w' B s l e :=
  h.grown (row := none) (grownBy_below hb none) (fun g hg => by cases hg)

theorem Rd.below {T : TypeId} {lo : Nat → Prop} {B e : Nat} {w w' : World} {l : List Nat} (h : Rd T lo w B l e) (hb : Below w.heap.size w w') : Rd T lo w' B l e :=
  h.grown (row := none) (grownBy_below hb none) (fun g hg => by cases hg)

theorem setCell2_0 {w : World} {B : Nat} {a b u : Value} {T : TypeId} (h : w.heap[B]? = some (.cells #[a, b] T (0, 0))) : (w.setCell ⟨B, 0, none⟩ u).heap[B]? = some (.cells #[u, b] T (0, 0)) := by
  have hlt := lt_of_block h
  have h' : w.heap[B] = .cells #[a, b] T (0, 0) := by simpa [Array.getElem?_eq_getElem hlt] using h
  show (w.heap.modify B _)[B]? = _
  rw [Array.getElem?_eq_getElem (by simpa using hlt), Array.getElem_modify_self, h']
  rfl
theorem setCell2_1 {w : World} {B : Nat} {a b u : Value} {T : TypeId} (h : w.heap[B]? = some (.cells #[a, b] T (0, 0))) : (w.setCell ⟨B, 1, none⟩ u).heap[B]? = some (.cells #[a, u] T (0, 0)) := by
  have hlt := lt_of_block h
  have h' : w.heap[B] = .cells #[a, b] T (0, 0) := by simpa [Array.getElem?_eq_getElem hlt] using h
  show (w.heap.modify B _)[B]? = _
  rw [Array.getElem?_eq_getElem (by simpa using hlt), Array.getElem_modify_self, h']
  rfl
theorem cell2_0 {w : World} {B : Nat} {a b : Value} {T : TypeId} (h : w.heap[B]? = some (.cells #[a, b] T (0, 0))) : w.cell? ⟨B, 0, none⟩ = some a := by simp [World.cell?, h]
theorem cell2_1 {w : World} {B : Nat} {a b : Value} {T : TypeId} (h : w.heap[B]? = some (.cells #[a, b] T (0, 0))) : w.cell? ⟨B, 1, none⟩ = some b := by simp [World.cell?, h]
theorem free2 {w : World} {B : Nat} {a b : Value} {T : TypeId} (h : w.heap[B]? = some (.cells #[a, b] T (0, 0))) (o : Nat) : w.frozen? ⟨B, o, none⟩ = false := by simp [World.frozen?, h]

/-- The reader's error is turned. -/
theorem Rd.fail {T : TypeId} {lo : Nat → Prop} {B e : Nat} {w : World} {l : List Nat} (h : Rd T lo w B l e) (e' : Nat) : Rd T lo (w.setCell ⟨B, 1, none⟩ (.int .i64 (e' : Int))) B l e' := by
  obtain ⟨s, hh, hB, hlo, hb⟩ := h
  exact ⟨s, setCell2_1 hh, hB.grown (grownBy_setCell w B 1 _) (fun h0 he => hlo (hb h0 B he)), hlo, hb⟩

/-- The reader goes on, behind n bytes; what its bytes are then is what a reslice makes of them. -/
theorem Rd.move {T : TypeId} {lo : Nat → Prop} {B e : Nat} {w : World} {s s' : Value} {l' : List Nat} (hh : w.heap[B]? = some (.cells #[s, .int .i64 (e : Int)] T (0, 0))) (hB : Bts w s' l') (hlo : ¬ lo B) (hb : 0 < l'.length → ∀ b, s'.ownBlock = some b → lo b) :
    Rd T lo (w.setCell ⟨B, 0, none⟩ s') B l' e :=
  ⟨s', setCell2_0 hh, hB.grown (grownBy_setCell w B 0 _) (fun h0 he => hlo (hb h0 B he)), hlo, hb⟩

theorem RdS.move {T : TypeId} {lo : Nat → Prop} {B e : Nat} {w : World} {s s' : Value} {l l' : List Nat} (h : RdS T lo w B s l e) (hB : Bts w s' l') (ho : s'.ownBlock = s.ownBlock) (hl : l'.length ≤ l.length := by (simp only [List.length_take, List.length_drop, List.length_tail, List.length_nil]; omega)) :
    Rd T lo (w.setCell ⟨B, 0, none⟩ s') B l' e := Rd.move h.1 hB h.2.2.1 (fun h0 b hb => h.2.2.2 (by omega) b (by rw [← ho]; exact hb))

theorem below_drewN (B : Nat) (w : World) (n : Nat) : Below B w (w.drewN n) := ⟨rfl, rfl, rfl, Nat.le_refl _, fun _ _ => rfl⟩
theorem below_drew (B : Nat) (w : World) : Below B w w.drew := ⟨rfl, rfl, rfl, Nat.le_refl _, fun _ _ => rfl⟩
theorem calls_quiet {P : Program} {f : FuncId} {args : Array Value} {w : World} {n : Nat} {v : Value}
    (h : Calls P f args (w.drewN n) fun e w' => e = .returned v ∧ w.drewN n = w') : Calls P f args (w.drewN n) fun e w'' => e = .returned v ∧ ∃ m, w'' = w.drewN m :=
  Calls.quiet_of_same (h.mono fun _ _ ⟨he, hm⟩ => ⟨he, hm.symm⟩)
theorem calls_still {P : Program} {f : FuncId} {args : Array Value} {w : World} {v : Value}
    (h : Calls P f args w fun e w' => e = .returned v ∧ w = w') : Calls P f args w fun e w'' => e = .returned v ∧ w'' = w :=
  h.mono fun _ _ ⟨he, hm⟩ => ⟨he, hm.symm⟩

set_option maxHeartbeats 400000 in
set_option maxRecDepth 20000 in
theorem clone_any (v : Value) (l : List Nat) (w : World) (hB : Bts w v l) :
    Calls Tryz.prog 90 #[v] w fun e w' => ∃ v', e = .returned v' ∧ Own w.heap.size w' v' l ∧ Below w.heap.size w w' := by
  have HB := Lib.hid hB
  obtain ⟨p, cap, rfl, hr, hn, hp⟩ := hB.form
  have HL := Lib.hid hB.len
  have hq := fun (w : World) (a : Option Addr) (n c : Nat) => Lib.run_eql_slice_nil (P := Tryz.prog) w 36 5 a n c 0 0 Tryz.underlying36
  cases p with
  | none =>
    obtain rfl := hn rfl
    have hl0 : l.length = 0 := by omega
    obtain rfl : l = [] := List.eq_nil_of_length_eq_zero hl0
    clear hB hp hn
    go_enter Tryz.func90, Tryz.ntmps90
    go_wp2
    go_ret
    exact ⟨_, rfl, own_nil _ _, Below.refl _ _⟩
  | some ad =>
    have hown0 := own_empty w w.heap.size 0 #[] (Nat.le_refl _) (Nat.zero_le _) rfl
    have HO := Lib.hid hown0
    have hb0 : Below w.heap.size w (w.alloc (.cells #[] 5)) := (Below.refl _ _).alloc (Nat.le_refl _) _
    have HW0 := Lib.hid hb0
    clear hr hn hp hB hown0 hb0
    go_enter Tryz.func90, Tryz.ntmps90
    go_upto_region 3 with (fail)
    iterate 7 go_step
    refine wpList_append_Own rfl (.tmp 5) (.tmp 6) rfl w.heap.size _ [] rfl HO.out _ l rfl (HB.out.below HW0.out) (by have := HL.out; simpa using this) HW0.out.size ?_
    intro v1 w1 hown1 hb1 _
    rw [List.nil_append] at hown1
    have HO1 := Lib.hid hown1
    have HW1 := Lib.hid (HW0.out.trans hb1)
    clear hown1 hb1
    go_wp2
    go_ret
    exact ⟨_, rfl, HO1.out, HW1.out⟩

set_option maxHeartbeats 400000 in
set_option maxRecDepth 20000 in
theorem newReader_any (v : Value) (l : List Nat) (w : World) (hB : Bts w v l) :
    Calls Tryz.prog 56 #[v] w fun e w' => ∃ B, e = .returned (.pointer (some ⟨B, 0, none⟩)) ∧ Rd 127 (fun b => w.heap.size ≤ b ∧ b < B) w' B l 0 ∧ w.heap.size ≤ B ∧ Below w.heap.size w w' := by
  have HB := Lib.hid hB
  clear hB
  go_enter Tryz.func56, Tryz.ntmps56
  go_wp2_with fail
  refine (clone_any _ l _ HB.out).mono ?_
  rintro e w1 ⟨v1, rfl, hO1, hb1⟩
  have HO1 := Lib.hid hO1
  have HW1 := Lib.hid hb1
  clear hO1 hb1
  obtain ⟨p, cap, rfl, hr, hn, hp⟩ := HO1.out.bts.form
  clear hr hn hp
  go_wp2
  go_ret
  refine ⟨_, rfl, ⟨_, heap_alloc_last _ _, HO1.out.bts.below ((Below.refl _ _).alloc (Nat.le_refl _) _), (fun h => Nat.lt_irrefl _ h.2), fun _ b hb => ?_⟩, HW1.out.size, HW1.out.alloc HW1.out.size _⟩
  exact World.ownsRow.lt HO1.out.own b hb


set_option maxHeartbeats 400000 in
set_option maxRecDepth 20000 in
theorem err_any (lo : Nat → Prop) (B e : Nat) (l : List Nat) (w : World) (hR : Rd 127 lo w B l e) :
    Calls Tryz.prog 112 #[.pointer (some ⟨B, 0, none⟩)] w fun en w' => en = .returned (.int .i64 (e : Int)) ∧ w = w' := by
  obtain ⟨s, hh, hB, -, -⟩ := hR
  have hc1 := cell2_1 hh
  clear hB hh
  go_enter Tryz.func112, Tryz.ntmps112
  go_wp2
  go_ret
  exact ⟨rfl, rfl⟩


set_option maxHeartbeats 400000 in
set_option maxRecDepth 20000 in
theorem err_nil (w : World) : Calls Tryz.prog 112 #[.pointer none] w fun e w' => e = .returned (.int .i64 1) ∧ w = w' := by
  go_enter Tryz.func112, Tryz.ntmps112
  go_wp2
  go_ret
  exact ⟨rfl, rfl⟩
end Go.Proofs.YtafpjcobagofcaaGreat

namespace Go.Proofs.YtafpjcobagofcaaGreat
open Go.RowKit

theorem and127 (x : Nat) (hx : x < 256) : bits .and .u8 (x : Int) 127 = ((x % 128 : Nat) : Int) := by
  rw [show (127 : Int) = ((127 : Nat) : Int) from rfl, u8_and_nat x 127 hx (by decide), nat_mask7]

theorem shl7_cast (x k : Nat) : (x : Int) % 128 * 2 ^ (7 * k) = ((x % 128 * 128 ^ k : Nat) : Int) := by
  rw [show (128 : Nat) ^ k = 2 ^ (7 * k) by rw [Nat.pow_mul], Int.natCast_mul, Int.natCast_pow]; rfl

theorem or_shl7 (acc x k : Nat) (hk : k ≤ 9) (ha : acc < 128 ^ k) (h9 : k = 9 → x ≤ 1) : bits .or .u64 (acc : Int) (IntKind.u64.wrap ((x : Int) % 128 * 2 ^ (7 * k))) = ((acc + x % 128 * 128 ^ k : Nat) : Int) := by
  have h1 : x % 128 * 128 ^ k < 18446744073709551616 := by
    by_cases h : k = 9
    · subst h
      have := h9 rfl
      have h2 : x % 128 ≤ 1 := by omega
      have := Nat.mul_le_mul_right (128 ^ 9) h2
      have e : 128 ^ 9 = 9223372036854775808 := by decide
      omega
    · have h3 : x % 128 * 128 ^ k < 128 ^ (k + 1) := by
        rw [Nat.pow_succ, Nat.mul_comm]
        exact Nat.mul_lt_mul_of_pos_left (Nat.mod_lt _ (by decide)) (Nat.pow_pos (by decide))
      have h4 : 128 ^ (k + 1) ≤ 128 ^ 9 := Nat.pow_le_pow_right (by decide) (by omega)
      have e : 128 ^ 9 = 9223372036854775808 := by decide
      omega
  have h2 : acc < 18446744073709551616 := by
    have h4 : 128 ^ k ≤ 128 ^ 9 := Nat.pow_le_pow_right (by decide) hk
    have e : 128 ^ 9 = 9223372036854775808 := by decide
    omega
  rw [shl7_cast]
  have hw : IntKind.u64.wrap ((x % 128 * 128 ^ k : Nat) : Int) = ((x % 128 * 128 ^ k : Nat) : Int) := by
    rw [show IntKind.u64.wrap ((x % 128 * 128 ^ k : Nat) : Int) = ((x % 128 * 128 ^ k : Nat) : Int) % 18446744073709551616 by simp [IntKind.wrap, IntKind.bits, IntKind.signed]]
    omega
  have hp : (128 : Nat) ^ k = 2 ^ (7 * k) := by rw [Nat.pow_mul]
  rw [hw, u64_or_nat _ _ h2 h1, Nat.or_comm, nat_join (7 * k) _ _ (by rw [hp]; exact Nat.mul_mod_left _ _) (by rw [← hp]; exact ha), Nat.add_comm]

theorem acc_lt (acc x k : Nat) (ha : acc < 128 ^ k) : acc + x % 128 * 128 ^ k < 128 ^ (k + 1) := by
  have h : (x % 128 + 1) * 128 ^ k ≤ 128 * 128 ^ k := Nat.mul_le_mul_right _ (by omega)
  rw [Nat.add_mul] at h
  rw [Nat.pow_succ]
  omega

theorem two_of {n : Int} {k : Int} {p : Nat × Nat} {q : Nat × Nat} (h : p = q) (h1 : n = (q.1 : Int)) (h2 : k = (q.2 : Int)) : Ending.returned (.tuple #[.int .u64 n, .int .i64 k]) = .returned (.tuple #[.int .u64 (p.1 : Nat), .int .i64 (p.2 : Nat)]) := by
  subst h; rw [h1, h2]

set_option maxHeartbeats 1600000 in
set_option maxRecDepth 20000 in
theorem firstUv_any (v : Value) (l : List Nat) (w : World) (hB : Bts w v l) :
    Calls Tryz.prog 113 #[v] w fun en w' => en = .returned (.tuple #[.int .u64 ((Cod.cnt 0 l).1 : Nat), .int .i64 ((Cod.cnt 0 l).2 : Nat)]) ∧ w = w' := by
  have HB := Lib.hid hB
  obtain ⟨p, cap, rfl, hr, hn, hp⟩ := hB.form
  have HP := Lib.hid hp
  have hlen := hB.len
  have hcap := hr.1
  have hcap2 := hr.2
  clear hB hr hn hp
  have hq : ∃ m, m = min l.length 10 := ⟨_, rfl⟩
  obtain ⟨m, hm⟩ := hq
  have hm1 : m ≤ 10 := by omega
  have hm2 : m ≤ l.length := by omega
  have hm3 : m = 10 ∨ m = l.length := by omega
  have HM := Lib.hid hm
  have hmi : min (l.length : Int) 10 = (m : Int) := by omega
  clear hm
  go_enter Tryz.func113, Tryz.ntmps113
  go_wp2
  go_loop [4, 13] (fun n i => ∃ k acc : Nat, k ≤ m ∧ i = .int .i64 k ∧ n = .int .u64 acc ∧ acc < 128 ^ k ∧ Cod.cnt 0 l = Cod.fin acc k (Cod.cnt k (l.drop k))) (fun _ i => m - (intOf i).toNat)
  case atStart => exact ⟨0, 0, by omega, rfl, rfl, by decide, by rw [Cod.fin_start _ (Cod.cnt_none _ _)]; rfl⟩
  case round =>
    obtain ⟨k, acc, hk, rfl, rfl, hacc, hcnt⟩ := hrel
    have HCNT := Lib.hid hcnt
    have HACC := Lib.hid hacc
    clear hcnt hacc
    by_cases hlt : k < m
    · have hx := HB.out.getD k
      obtain ⟨b, off, rfl, hc⟩ := HP.out (by omega)
      have hck := hc k (by omega)
      have HD := Lib.hid (List.drop_eq_getElem_cons (l := l) (i := k) (by omega))
      have hxe : l.getD k 0 = l[k]'(by omega) := by simp [List.getElem?_eq_getElem (show k < l.length by omega)]
      rw [← hxe] at HD
      clear hc hxe
      generalize l.getD k 0 = x at hck hx HD
      have hax := and127 x hx
      have hk9 : k ≤ 9 := by omega
      have HO := Lib.hid (or_shl7 acc x k hk9 HACC.out)
      have HE : Hid (Cod.cnt 0 l = Cod.fin acc k (Cod.cnt k (x :: l.drop (k + 1)))) := by rw [← HD.out]; exact HCNT.out
      go_wp2
      · go_ret2
        exact ⟨two_of (HE.out.trans (Cod.fin_over _ _ _ _ ⟨by omega, by omega⟩)) rfl rfl, rfl⟩
      · go_ret2
        have hx0 : x = 0 := by assumption
        subst hx0
        exact ⟨two_of (HE.out.trans (Cod.fin_zero _ _ _ (by omega) (by omega))) rfl rfl, rfl⟩
      · go_ret2
        have e : IntKind.u64.wrap ((x : Int) % 128 * 2 ^ (7 * k)) = (x : Int) % 128 * 9223372036854775808 := by
          obtain rfl : k = 9 := by omega
          rw [show (2 : Int) ^ (7 * 9) = 9223372036854775808 by decide, show IntKind.u64.wrap ((x : Int) % 128 * 9223372036854775808) = ((x : Int) % 128 * 9223372036854775808) % 18446744073709551616 by simp [IntKind.wrap, IntKind.bits, IntKind.signed]]
          omega
        exact ⟨two_of (HE.out.trans (Cod.fin_last _ _ _ _ (by omega) (by omega) (by omega) (by omega))) (by rw [← e, HO.out (by omega), Nat.mod_eq_of_lt (by omega)]) (by show (10 : Int) = ((k + 1 : Nat) : Int); omega), rfl⟩
      · go_round
        case rel => exact ⟨k + 1, _, by omega, by go_num, by rw [HO.out (by omega)], acc_lt _ _ _ HACC.out, HE.out.trans (Cod.fin_step _ _ _ _ (by omega) (by omega) (by omega))⟩
        case measure => simp [intOf]; omega
      · go_ret2
        have hx0 : x = 0 := by assumption
        subst hx0
        exact ⟨two_of (HE.out.trans (Cod.fin_zero _ _ _ (by omega) (by omega))) rfl rfl, rfl⟩
      · go_ret2
        have e : IntKind.u64.wrap ((x : Int) % 128 * 2 ^ (7 * k)) = IntKind.u64.wrap 0 := by
          obtain rfl : x = 0 := by assumption
          congr 1
          simp
        exact ⟨two_of (HE.out.trans (Cod.fin_last _ _ _ _ (by omega) (by omega) (by omega) (by omega))) (by rw [← e, HO.out (by omega), Nat.mod_eq_of_lt (by omega)]) rfl, rfl⟩
      · go_ret2
        exact ⟨two_of (HE.out.trans (Cod.fin_last _ _ _ _ (by omega) (by omega) (by omega) (by omega))) (by rw [HO.out (by omega)]; rw [Nat.mod_eq_of_lt (by omega)]) rfl, rfl⟩
    · obtain rfl : k = m := by omega
      have HE : Hid (Cod.cnt 0 l = (0, 0)) := by
        rw [HCNT.out]
        rcases hm3 with h | h
        · exact Cod.fin_ten _ _ _ (by omega)
        · rw [List.drop_eq_nil_of_le (by omega)]
          exact Cod.fin_end _ _
      go_wp2
      go_ret2
      exact ⟨two_of HE.out rfl rfl, rfl⟩

end Go.Proofs.YtafpjcobagofcaaGreat
