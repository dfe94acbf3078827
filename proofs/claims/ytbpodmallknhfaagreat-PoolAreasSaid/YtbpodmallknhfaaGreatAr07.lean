/- Parts of a proof. Conditions: as each row says. -/
import Derived.Test.YtbpodmallknhfaaGreatAr03
import Derived.Test.YtbpodmallknhfaaGreatAr06
import Derived.Test.YtbpodmallknhfaaGreatAr01
import Derived.Lib.SliceRun
import Derived.Deep.QuietTactic
import Derived.BigQuiet
import Derived.StillTailTactics
namespace Go.Proofs.YtbpodmallknhfaaGreat
open Go.RowKit
def RdS (T : TypeId) (lo : Nat → Prop) (w : World) (B : Nat) (s : Value) (l : List Nat) (e : Nat) : Prop :=
  w.heap[B]? = some (.cells #[s, .int .i64 (e : Int)] T (0, 0)) ∧ Bts w s l ∧ ¬ lo B ∧ (0 < l.length → ∀ b, s.ownBlock = some b → lo b)
def Rd (T : TypeId) (lo : Nat → Prop) (w : World) (B : Nat) (l : List Nat) (e : Nat) : Prop := ∃ s, RdS T lo w B s l e
theorem Rd.lt {T : TypeId} {lo : Nat → Prop} {B e : Nat} {w : World} {l : List Nat} (h : Rd T lo w B l e) : B < w.heap.size := by
  obtain ⟨s, hh, _⟩ := h; exact lt_of_block hh
theorem RdS.grown {T : TypeId} {lo : Nat → Prop} {B e : Nat} {w w' : World} {s : Value} {l : List Nat} {row : Option Nat} (h : RdS T lo w B s l e) (hg : w.grownBy w' row) (hr : ∀ g, row = some g → ¬ lo g ∧ g ≠ B) : RdS T lo w' B s l e := by
  obtain ⟨hh, hB, hlo, hb⟩ := h
  refine ⟨?_, hB.grown hg ?_, hlo, hb⟩
  · rw [hg.block B (lt_of_block hh) ?_]
    · exact hh
    · intro he
      exact (hr B he.symm).2 rfl
  · intro h0 he
    obtain ⟨p, cap, hv, _, _, hp⟩ := hB.form
    obtain ⟨b, off, hpe, _⟩ := hp h0
    subst hpe
    have hown : s.ownBlock = some b := by rw [hv]; rfl
    exact (hr b (by rw [← he, hown])).1 (hb h0 b hown)
theorem Rd.grown {T : TypeId} {lo : Nat → Prop} {B e : Nat} {w w' : World} {l : List Nat} {row : Option Nat} (h : Rd T lo w B l e) (hg : w.grownBy w' row) (hr : ∀ g, row = some g → ¬ lo g ∧ g ≠ B) : Rd T lo w' B l e := by
  obtain ⟨s, hs⟩ := h; exact ⟨s, hs.grown hg hr⟩
theorem RdS.below {T : TypeId} {lo : Nat → Prop} {B e : Nat} {w w' : World} {s : Value} {l : List Nat} (h : RdS T lo w B s l e) (hb : Below w.heap.size w w') : RdS T lo w' B s l e :=
  h.grown (row := none) (grownBy_below hb none) (fun g hg => by cases hg)
theorem Rd.below {T : TypeId} {lo : Nat → Prop} {B e : Nat} {w w' : World} {l : List Nat} (h : Rd T lo w B l e) (hb : Below w.heap.size w w') : Rd T lo w' B l e :=
  h.grown (row := none) (grownBy_below hb none) (fun g hg => by cases hg)
theorem setCell2_0 {w : World} {B : Nat} {a b u : Value} {T : TypeId} (h : w.heap[B]? = some (.cells #[a, b] T (0, 0))) : (w.setCell ⟨B, 0, none⟩ u).heap[B]? = some (.cells #[u, b] T (0, 0)) := by
  have hlt := lt_of_block h
  have h' : w.heap[B] = .cells #[a, b] T (0, 0) := by simpa [Array.getElem?_eq_getElem hlt] using h
  show (w.heap.modify B _)[B]? = _
  rw [Array.getElem?_eq_getElem (by simpa using hlt), Array.getElem_modify_self, h']
  rfl
theorem setCell2_1 {w : World} {B : Nat} {a b u : Value} {T : TypeId} (h : w.heap[B]? = some (.cells #[a, b] T (0, 0))) : (w.setCell ⟨B, 1, none⟩ u).heap[B]? = some (.cells #[a, u] T (0, 0)) := by
  have hlt := lt_of_block h
  have h' : w.heap[B] = .cells #[a, b] T (0, 0) := by simpa [Array.getElem?_eq_getElem hlt] using h
  show (w.heap.modify B _)[B]? = _
  rw [Array.getElem?_eq_getElem (by simpa using hlt), Array.getElem_modify_self, h']
  rfl
theorem cell2_0 {w : World} {B : Nat} {a b : Value} {T : TypeId} (h : w.heap[B]? = some (.cells #[a, b] T (0, 0))) : w.cell? ⟨B, 0, none⟩ = some a := by simp [World.cell?, h]
theorem cell2_1 {w : World} {B : Nat} {a b : Value} {T : TypeId} (h : w.heap[B]? = some (.cells #[a, b] T (0, 0))) : w.cell? ⟨B, 1, none⟩ = some b := by simp [World.cell?, h]
theorem free2 {w : World} {B : Nat} {a b : Value} {T : TypeId} (h : w.heap[B]? = some (.cells #[a, b] T (0, 0))) (o : Nat) : w.frozen? ⟨B, o, none⟩ = false := by simp [World.frozen?, h]
theorem Rd.fail {T : TypeId} {lo : Nat → Prop} {B e : Nat} {w : World} {l : List Nat} (h : Rd T lo w B l e) (e' : Nat) : Rd T lo (w.setCell ⟨B, 1, none⟩ (.int .i64 (e' : Int))) B l e' := by
  obtain ⟨s, hh, hB, hlo, hb⟩ := h
  exact ⟨s, setCell2_1 hh, hB.grown (grownBy_setCell w B 1 _) (fun h0 he => hlo (hb h0 B he)), hlo, hb⟩
theorem Rd.move {T : TypeId} {lo : Nat → Prop} {B e : Nat} {w : World} {s s' : Value} {l' : List Nat} (hh : w.heap[B]? = some (.cells #[s, .int .i64 (e : Int)] T (0, 0))) (hB : Bts w s' l') (hlo : ¬ lo B) (hb : 0 < l'.length → ∀ b, s'.ownBlock = some b → lo b) :
    Rd T lo (w.setCell ⟨B, 0, none⟩ s') B l' e :=
  ⟨s', setCell2_0 hh, hB.grown (grownBy_setCell w B 0 _) (fun h0 he => hlo (hb h0 B he)), hlo, hb⟩
theorem RdS.move {T : TypeId} {lo : Nat → Prop} {B e : Nat} {w : World} {s s' : Value} {l l' : List Nat} (h : RdS T lo w B s l e) (hB : Bts w s' l') (ho : s'.ownBlock = s.ownBlock) (hl : l'.length ≤ l.length := by (simp only [List.length_take, List.length_drop, List.length_tail, List.length_nil]; omega)) :
    Rd T lo (w.setCell ⟨B, 0, none⟩ s') B l' e := Rd.move h.1 hB h.2.2.1 (fun h0 b hb => h.2.2.2 (by omega) b (by rw [← ho]; exact hb))
theorem below_drewN (B : Nat) (w : World) (n : Nat) : Below B w (w.drewN n) := ⟨rfl, rfl, rfl, Nat.le_refl _, fun _ _ => rfl⟩
theorem below_drew (B : Nat) (w : World) : Below B w w.drew := ⟨rfl, rfl, rfl, Nat.le_refl _, fun _ _ => rfl⟩
theorem calls_quiet {P : Program} {f : FuncId} {args : Array Value} {w : World} {n : Nat} {v : Value}
    (h : Calls P f args (w.drewN n) fun e w' => e = .returned v ∧ w.drewN n = w') : Calls P f args (w.drewN n) fun e w'' => e = .returned v ∧ ∃ m, w'' = w.drewN m :=
  Calls.quiet_of_same (h.mono fun _ _ ⟨he, hm⟩ => ⟨he, hm.symm⟩)
theorem calls_still {P : Program} {f : FuncId} {args : Array Value} {w : World} {v : Value}
    (h : Calls P f args w fun e w' => e = .returned v ∧ w = w') : Calls P f args w fun e w'' => e = .returned v ∧ w'' = w :=
  h.mono fun _ _ ⟨he, hm⟩ => ⟨he, hm.symm⟩
set_option maxHeartbeats 400000 in
set_option maxRecDepth 20000 in
theorem clone_any (v : Value) (l : List Nat) (w : World) (hB : Bts w v l) :
    Calls Tryz.prog 76 #[v] w fun e w' => ∃ v', e = .returned v' ∧ Own w.heap.size w' v' l ∧ Below w.heap.size w w' := by
  have HB := Lib.hid hB
  obtain ⟨p, cap, rfl, hr, hn, hp⟩ := hB.form
  have HL := Lib.hid hB.len
  have hq := fun (w : World) (a : Option Addr) (n c : Nat) => Lib.run_eql_slice_nil (P := Tryz.prog) w 57 5 a n c 0 0 Tryz.underlying57
  cases p with
  | none =>
    obtain rfl := hn rfl
    have hl0 : l.length = 0 := by omega
    obtain rfl : l = [] := List.eq_nil_of_length_eq_zero hl0
    clear hB hp hn
    go_enter Tryz.func76, Tryz.ntmps76
    go_wp2
    go_ret
    exact ⟨_, rfl, own_nil _ _, Below.refl _ _⟩
  | some ad =>
    have hown0 := own_empty w w.heap.size 0 #[] (Nat.le_refl _) (Nat.zero_le _) rfl
    have HO := Lib.hid hown0
    have hb0 : Below w.heap.size w (w.alloc (.cells #[] 5)) := (Below.refl _ _).alloc (Nat.le_refl _) _
    have HW0 := Lib.hid hb0
    clear hr hn hp hB hown0 hb0
    go_enter Tryz.func76, Tryz.ntmps76
    go_upto_region 3 with (fail)
    iterate 7 go_step
    refine wpList_append_Own rfl (.tmp 5) (.tmp 6) rfl w.heap.size _ [] rfl HO.out _ l rfl (HB.out.below HW0.out) (by have := HL.out; simpa using this) HW0.out.size ?_
    intro v1 w1 hown1 hb1 _
    rw [List.nil_append] at hown1
    have HO1 := Lib.hid hown1
    have HW1 := Lib.hid (HW0.out.trans hb1)
    clear hown1 hb1
    go_wp2
    go_ret
    exact ⟨_, rfl, HO1.out, HW1.out⟩
set_option maxHeartbeats 400000 in
set_option maxRecDepth 20000 in
theorem newReader_any (v : Value) (l : List Nat) (w : World) (hB : Bts w v l) :
    Calls Tryz.prog 128 #[v] w fun e w' => ∃ B, e = .returned (.pointer (some ⟨B, 0, none⟩)) ∧ Rd 217 (fun b => w.heap.size ≤ b ∧ b < B) w' B l 0 ∧ w.heap.size ≤ B ∧ Below w.heap.size w w' := by
  have HB := Lib.hid hB
  clear hB
  go_enter Tryz.func128, Tryz.ntmps128
  go_wp2_with fail
  refine (clone_any _ l _ HB.out).mono ?_
  rintro e w1 ⟨v1, rfl, hO1, hb1⟩
  have HO1 := Lib.hid hO1
  have HW1 := Lib.hid hb1
  clear hO1 hb1
  obtain ⟨p, cap, rfl, hr, hn, hp⟩ := HO1.out.bts.form
  clear hr hn hp
  go_wp2
  go_ret
  refine ⟨_, rfl, ⟨_, heap_alloc_last _ _, HO1.out.bts.below ((Below.refl _ _).alloc (Nat.le_refl _) _), (fun h => Nat.lt_irrefl _ h.2), fun _ b hb => ?_⟩, HW1.out.size, HW1.out.alloc HW1.out.size _⟩
  exact World.ownsRow.lt HO1.out.own b hb
set_option maxHeartbeats 400000 in
set_option maxRecDepth 20000 in
theorem err_any (lo : Nat → Prop) (B e : Nat) (l : List Nat) (w : World) (hR : Rd 217 lo w B l e) :
    Calls Tryz.prog 181 #[.pointer (some ⟨B, 0, none⟩)] w fun en w' => en = .returned (.int .i64 (e : Int)) ∧ w = w' := by
  obtain ⟨s, hh, hB, -, -⟩ := hR
  have hc1 := cell2_1 hh
  clear hB hh
  go_enter Tryz.func181, Tryz.ntmps181
  go_wp2
  go_ret
  exact ⟨rfl, rfl⟩
end Go.Proofs.YtbpodmallknhfaaGreat
namespace Go.Proofs.YtbpodmallknhfaaGreat
open Go.RowKit
end Go.Proofs.YtbpodmallknhfaaGreat
namespace Go.Proofs.YtbpodmallknhfaaGreat
open Go.RowKit
theorem pow256 (k : Nat) : (2 : Nat) ^ (8 * k) = 256 ^ k := by rw [Nat.pow_mul]
theorem shl_cast (x k : Nat) : (x : Int) * 2 ^ (8 * k) = ((x * 256 ^ k : Nat) : Int) := by
  rw [← pow256 k, Int.natCast_mul, Int.natCast_pow]; rfl
theorem shl_lt (x k c : Nat) (hx : x < 256) (hk : k < c) : x * 256 ^ k < 256 ^ c := by
  have h1 : x * 256 ^ k < 256 ^ (k + 1) := by
    rw [Nat.pow_succ, Nat.mul_comm]
    exact Nat.mul_lt_mul_of_pos_left hx (Nat.pow_pos (by decide))
  exact Nat.lt_of_lt_of_le h1 (Nat.pow_le_pow_right (by decide) hk)
theorem or_shl32 (acc x k : Nat) (hk : k < 4) (ha : acc < 256 ^ k) (hx : x < 256) : bits .or .u32 (acc : Int) (IntKind.u32.wrap ((x : Int) * 2 ^ (8 * k))) = ((acc + x * 256 ^ k : Nat) : Int) := by
  have h1 : x * 256 ^ k < 4294967296 := shl_lt x k 4 hx hk
  have h2 : acc < 4294967296 := Nat.lt_of_lt_of_le ha (Nat.pow_le_pow_right (i := k) (j := 4) (by decide : 256 > 0) (by omega))
  rw [shl_cast]
  have hw : IntKind.u32.wrap ((x * 256 ^ k : Nat) : Int) = ((x * 256 ^ k : Nat) : Int) := by
    rw [show IntKind.u32.wrap ((x * 256 ^ k : Nat) : Int) = ((x * 256 ^ k : Nat) : Int) % 4294967296 by simp [IntKind.wrap, IntKind.bits, IntKind.signed]]
    omega
  rw [hw, u32_or_nat _ _ h2 h1, Nat.or_comm, nat_join (8 * k) _ _ (by rw [pow256]; exact Nat.mul_mod_left _ _) (by rw [pow256]; exact ha), Nat.add_comm]
theorem num_step32 (l : List Nat) (k : Nat) (x : Nat) (hk : k < 4) (hl : k < l.length) (hs : ∀ y ∈ l, y < 256) (hx : x < 256) (hN : l.take (k + 1) = l.take k ++ [x]) :
    bits .or .u32 (Cod.num (l.take k) : Nat) (IntKind.u32.wrap ((x : Int) * 2 ^ (8 * k))) = (Cod.num (l.take (k + 1)) : Nat) := by
  have hll : (l.take k).length = k := by simp; omega
  have ha : Cod.num (l.take k) < 256 ^ k := by
    have := Cod.num_lt (l.take k) (fun y hy => hs y (List.mem_of_mem_take hy))
    rwa [hll] at this
  rw [or_shl32 _ x k hk ha hx, hN, Cod.num_snoc, hll]
set_option maxHeartbeats 400000 in
set_option maxRecDepth 20000 in
theorem take32_err (lo : Nat → Prop) (B e : Nat) (l : List Nat) (w : World) (hR : Rd 217 lo w B l e) (he : e ≠ 0) :
    Calls Tryz.prog 173 #[.pointer (some ⟨B, 0, none⟩)] w fun en w' => en = .returned (.int .u32 0) ∧ w = w' := by
  have HR := Lib.hid hR
  have h0 : ((e : Int) == 0) = false := by simp; omega
  have h1 : ((e : Int) != 0) = true := by simp; omega
  have h2 : ¬ (e : Int) = 0 := by omega
  clear hR he
  go_enter Tryz.func173, Tryz.ntmps173
  go_wp2_with fail
  refine (err_any lo B e l _ HR.out).mono ?_
  rintro en w' ⟨rfl, rfl⟩
  go_wp2_with fail
  go_ret
  exact ⟨rfl, rfl⟩
set_option maxHeartbeats 800000 in
set_option maxRecDepth 20000 in
theorem take32_short (lo : Nat → Prop) (B : Nat) (l : List Nat) (w : World) (hR : Rd 217 lo w B l 0) (hl : l.length < 4) :
    Calls Tryz.prog 173 #[.pointer (some ⟨B, 0, none⟩)] w fun e w' => e = .returned (.int .u32 0) ∧ Rd 217 lo w' B l 4 ∧ w.grownBy w' (some B) := by
  have HR := Lib.hid hR
  obtain ⟨s, hh, hB, -, -⟩ := hR
  obtain ⟨p, cap, rfl, -, -, -⟩ := hB.form
  have hc0 := cell2_0 hh
  have hc1 := cell2_1 hh
  have hf := free2 hh 1
  clear hB hh
  go_enter Tryz.func173, Tryz.ntmps173
  go_wp2_with fail
  refine (err_any lo B 0 l _ HR.out).mono ?_
  rintro e w' ⟨rfl, rfl⟩
  go_wp2_with fail
  go_quiet ((go_at_call 157; exact calls_quiet (width32 _)))
  go_wp2
  go_ret
  exact ⟨rfl, (HR.out.below (below_drewN _ _ _)).fail 4, grownBy_trans (grownBy_below (below_drewN _ _ _) _) (grownBy_setCell _ _ _ _)⟩
set_option maxHeartbeats 1600000 in
set_option maxRecDepth 20000 in
theorem take32_ok (lo : Nat → Prop) (B : Nat) (l : List Nat) (w : World) (hR : Rd 217 lo w B l 0) (hl : 4 ≤ l.length) :
    Calls Tryz.prog 173 #[.pointer (some ⟨B, 0, none⟩)] w fun e w' => e = .returned (.int .u32 (Cod.num (l.take 4) : Nat)) ∧ Rd 217 lo w' B (l.drop 4) 0 ∧ w.grownBy w' (some B) := by
  have HR := Lib.hid hR
  obtain ⟨s, hS⟩ := hR
  have HS := Lib.hid hS
  have HB := Lib.hid hS.2.1
  obtain ⟨p, cap, rfl, hr, hn, hp⟩ := HB.out.form
  obtain ⟨b, off, rfl, hc⟩ := hp (by omega)
  have hcap := hr.1
  have hcap2 := hr.2
  have hc0 := cell2_0 hS.1
  clear hS hr hn hp hc
  go_enter Tryz.func173, Tryz.ntmps173
  go_wp2_with fail
  refine (err_any lo B 0 l _ HR.out).mono ?_
  rintro e w' ⟨rfl, rfl⟩
  go_wp2_with fail
  go_quiet ((go_at_call 157; exact calls_quiet (width32 _)))
  go_wp2
  have HW2 := Lib.hid (below_drewN w.heap.size w nq)
  have HS2 := Lib.hid (HS.out.below HW2.out)
  generalize w.drewN nq = w2 at HW2 HS2 ⊢
  clear hc0
  have hc0 := cell2_0 HS2.out.1
  go_quiet ((go_at_call 157; exact calls_quiet (width32 _)))
  have HW3 := Lib.hid (HW2.out.trans (below_drewN w.heap.size w2 nq))
  have HS3 := Lib.hid (HS2.out.below (below_drewN w2.heap.size w2 nq))
  generalize w2.drewN nq = w3 at HW3 HS3 ⊢
  clear hc0 HW2 HS2
  go_wp2
  have hlen := HB.out.len
  go_loop [3, 26] (fun n i => ∃ k : Nat, k ≤ 4 ∧ i = .int .i64 k ∧ n = .int .u32 (Cod.num (l.take k) : Nat)) (fun _ i => 4 - (intOf i).toNat)
  case atStart => exact ⟨0, by omega, rfl, rfl⟩
  case round =>
    obtain ⟨k, hk, rfl, rfl⟩ := hrel
    by_cases hlt : k < 4
    · have hck : w3.cell? ⟨b, off + k, none⟩ = some (.int .u8 (l.getD k 0 : Nat)) := by
        obtain ⟨p', cap', he, -, -, hp⟩ := HS3.out.2.1.form
        obtain ⟨b', off', hpe, hc⟩ := hp (by omega)
        simp only [Value.slice.injEq] at he
        obtain ⟨rfl, -, rfl⟩ := he
        simp only [Option.some.injEq, Addr.mk.injEq] at hpe
        obtain ⟨rfl, rfl, -⟩ := hpe
        exact hc k (by omega)
      have hx := HB.out.getD k
      have HN := Lib.hid (take_succ_getD l k (by omega))
      generalize l.getD k 0 = x at hck hx HN
      have HST := Lib.hid (num_step32 l k x hlt (by omega) HB.out.small hx HN.out)
      have hst2 := HST.out
      rw [show IntKind.u32.wrap ((x : Int) * 2 ^ (8 * k)) = (x : Int) * 2 ^ (8 * k) % 4294967296 by simp [IntKind.wrap, IntKind.bits, IntKind.signed]] at hst2
      have HST2 := Lib.hid hst2
      clear hst2
      go_wp2
      go_round
      case rel => exact ⟨k + 1, by omega, by go_num, by first | rw [HST.out] | rw [HST2.out]⟩
      case measure => simp [intOf]; omega
    · obtain rfl : k = 4 := by omega
      have hc0 := cell2_0 HS3.out.1
      have hf := free2 HS3.out.1 0
      go_wp2
      refine wp_region_still_tail 9 (by kernel_rfl) (by kernel_rfl) ?_
      simp only [List.take_succ_cons, List.take_zero, List.drop_succ_cons, List.drop_zero]
      iterate 5 still_step
      still_call (calls_still (width32 _))
      repeat still_step
      refine wpStill_nil ?_
      go_wp2
      all_goals
        go_ret
        refine ⟨rfl, ?_, grownBy_trans (grownBy_below HW3.out _) (grownBy_trans (grownBy_drew _ _) (grownBy_setCell _ _ _ _))⟩
        refine (HS3.out.below (below_drew _ _)).move ?_ rfl
        try rw [← List.drop_one]
        first
          | exact (HS3.out.2.1.below (below_drew _ _)).drop 4 hl
          | (have hz : l.length = 4 := by omega
             rw [show l.drop 4 = [] from List.drop_eq_nil_of_le (by omega), hz]
             exact ⟨⟨_, _, rfl, by simp, (fun h => by simp at h), fun h => absurd h (by simp)⟩, by simp, by simp⟩)
theorem take32_any (lo : Nat → Prop) (B e : Nat) (l : List Nat) (w : World) (hR : Rd 217 lo w B l e) :
    Calls Tryz.prog 173 #[.pointer (some ⟨B, 0, none⟩)] w fun en w' => en = .returned (.int .u32 ((Cod.rdNum 4 l e).1 : Nat)) ∧ Rd 217 lo w' B (Cod.rdNum 4 l e).2.1 (Cod.rdNum 4 l e).2.2 ∧ w.grownBy w' (some B) := by
  unfold Cod.rdNum
  by_cases he : e ≠ 0
  · rw [if_pos he]
    exact (take32_err lo B e l w hR he).mono fun en w' ⟨h1, h2⟩ => by subst h2; exact ⟨h1, hR, grownBy_refl _ _⟩
  · obtain rfl : e = 0 := by omega
    rw [if_neg he]
    by_cases hl : l.length < 4
    · rw [if_pos hl]; exact take32_short lo B l w hR hl
    · rw [if_neg hl]; exact take32_ok lo B l w hR (by omega)
set_option maxHeartbeats 400000 in
set_option maxRecDepth 20000 in
theorem U32_any (lo : Nat → Prop) (B e : Nat) (l : List Nat) (w : World) (hR : Rd 217 lo w B l e) :
    Calls Tryz.prog 144 #[.pointer (some ⟨B, 0, none⟩)] w fun en w' => en = .returned (.int .u32 ((Cod.rdNum 4 l e).1 : Nat)) ∧ Rd 217 lo w' B (Cod.rdNum 4 l e).2.1 (Cod.rdNum 4 l e).2.2 ∧ w.grownBy w' (some B) := by
  have HR := Lib.hid hR
  clear hR
  go_enter Tryz.func144, Tryz.ntmps144
  go_wp2_with fail
  refine (take32_any lo B e l _ HR.out).mono ?_
  rintro en w1 ⟨rfl, h1, h2⟩
  have H1 := Lib.hid h1
  have H2 := Lib.hid h2
  clear h1 h2
  go_wp2
  go_ret
  exact ⟨rfl, H1.out, H2.out⟩
theorem or_shl64 (acc x k : Nat) (hk : k < 8) (ha : acc < 256 ^ k) (hx : x < 256) : bits .or .u64 (acc : Int) (IntKind.u64.wrap ((x : Int) * 2 ^ (8 * k))) = ((acc + x * 256 ^ k : Nat) : Int) := by
  have h1 : x * 256 ^ k < 18446744073709551616 := shl_lt x k 8 hx hk
  have h2 : acc < 18446744073709551616 := Nat.lt_of_lt_of_le ha (Nat.pow_le_pow_right (i := k) (j := 8) (by decide : 256 > 0) (by omega))
  rw [shl_cast]
  have hw : IntKind.u64.wrap ((x * 256 ^ k : Nat) : Int) = ((x * 256 ^ k : Nat) : Int) := by
    rw [show IntKind.u64.wrap ((x * 256 ^ k : Nat) : Int) = ((x * 256 ^ k : Nat) : Int) % 18446744073709551616 by simp [IntKind.wrap, IntKind.bits, IntKind.signed]]
    omega
  rw [hw, u64_or_nat _ _ h2 h1, Nat.or_comm, nat_join (8 * k) _ _ (by rw [pow256]; exact Nat.mul_mod_left _ _) (by rw [pow256]; exact ha), Nat.add_comm]
theorem num_step64 (l : List Nat) (k : Nat) (x : Nat) (hk : k < 8) (hl : k < l.length) (hs : ∀ y ∈ l, y < 256) (hx : x < 256) (hN : l.take (k + 1) = l.take k ++ [x]) :
    bits .or .u64 (Cod.num (l.take k) : Nat) (IntKind.u64.wrap ((x : Int) * 2 ^ (8 * k))) = (Cod.num (l.take (k + 1)) : Nat) := by
  have hll : (l.take k).length = k := by simp; omega
  have ha : Cod.num (l.take k) < 256 ^ k := by
    have := Cod.num_lt (l.take k) (fun y hy => hs y (List.mem_of_mem_take hy))
    rwa [hll] at this
  rw [or_shl64 _ x k hk ha hx, hN, Cod.num_snoc, hll]
set_option maxHeartbeats 400000 in
set_option maxRecDepth 20000 in
theorem take64_err (lo : Nat → Prop) (B e : Nat) (l : List Nat) (w : World) (hR : Rd 217 lo w B l e) (he : e ≠ 0) :
    Calls Tryz.prog 174 #[.pointer (some ⟨B, 0, none⟩)] w fun en w' => en = .returned (.int .u64 0) ∧ w = w' := by
  have HR := Lib.hid hR
  have h0 : ((e : Int) == 0) = false := by simp; omega
  have h1 : ((e : Int) != 0) = true := by simp; omega
  have h2 : ¬ (e : Int) = 0 := by omega
  clear hR he
  go_enter Tryz.func174, Tryz.ntmps174
  go_wp2_with fail
  refine (err_any lo B e l _ HR.out).mono ?_
  rintro en w' ⟨rfl, rfl⟩
  go_wp2_with fail
  go_ret
  exact ⟨rfl, rfl⟩
set_option maxHeartbeats 800000 in
set_option maxRecDepth 20000 in
theorem take64_short (lo : Nat → Prop) (B : Nat) (l : List Nat) (w : World) (hR : Rd 217 lo w B l 0) (hl : l.length < 8) :
    Calls Tryz.prog 174 #[.pointer (some ⟨B, 0, none⟩)] w fun e w' => e = .returned (.int .u64 0) ∧ Rd 217 lo w' B l 4 ∧ w.grownBy w' (some B) := by
  have HR := Lib.hid hR
  obtain ⟨s, hh, hB, -, -⟩ := hR
  obtain ⟨p, cap, rfl, -, -, -⟩ := hB.form
  have hc0 := cell2_0 hh
  have hc1 := cell2_1 hh
  have hf := free2 hh 1
  clear hB hh
  go_enter Tryz.func174, Tryz.ntmps174
  go_wp2_with fail
  refine (err_any lo B 0 l _ HR.out).mono ?_
  rintro e w' ⟨rfl, rfl⟩
  go_wp2_with fail
  go_quiet ((go_at_call 156; exact calls_quiet (width64 _)))
  go_wp2
  go_ret
  exact ⟨rfl, (HR.out.below (below_drewN _ _ _)).fail 4, grownBy_trans (grownBy_below (below_drewN _ _ _) _) (grownBy_setCell _ _ _ _)⟩
set_option maxHeartbeats 1600000 in
set_option maxRecDepth 20000 in
theorem take64_ok (lo : Nat → Prop) (B : Nat) (l : List Nat) (w : World) (hR : Rd 217 lo w B l 0) (hl : 8 ≤ l.length) :
    Calls Tryz.prog 174 #[.pointer (some ⟨B, 0, none⟩)] w fun e w' => e = .returned (.int .u64 (Cod.num (l.take 8) : Nat)) ∧ Rd 217 lo w' B (l.drop 8) 0 ∧ w.grownBy w' (some B) := by
  have HR := Lib.hid hR
  obtain ⟨s, hS⟩ := hR
  have HS := Lib.hid hS
  have HB := Lib.hid hS.2.1
  obtain ⟨p, cap, rfl, hr, hn, hp⟩ := HB.out.form
  obtain ⟨b, off, rfl, hc⟩ := hp (by omega)
  have hcap := hr.1
  have hcap2 := hr.2
  have hc0 := cell2_0 hS.1
  clear hS hr hn hp hc
  go_enter Tryz.func174, Tryz.ntmps174
  go_wp2_with fail
  refine (err_any lo B 0 l _ HR.out).mono ?_
  rintro e w' ⟨rfl, rfl⟩
  go_wp2_with fail
  go_quiet ((go_at_call 156; exact calls_quiet (width64 _)))
  go_wp2
  have HW2 := Lib.hid (below_drewN w.heap.size w nq)
  have HS2 := Lib.hid (HS.out.below HW2.out)
  generalize w.drewN nq = w2 at HW2 HS2 ⊢
  clear hc0
  have hc0 := cell2_0 HS2.out.1
  go_quiet ((go_at_call 156; exact calls_quiet (width64 _)))
  have HW3 := Lib.hid (HW2.out.trans (below_drewN w.heap.size w2 nq))
  have HS3 := Lib.hid (HS2.out.below (below_drewN w2.heap.size w2 nq))
  generalize w2.drewN nq = w3 at HW3 HS3 ⊢
  clear hc0 HW2 HS2
  go_wp2
  have hlen := HB.out.len
  go_loop [3, 26] (fun n i => ∃ k : Nat, k ≤ 8 ∧ i = .int .i64 k ∧ n = .int .u64 (Cod.num (l.take k) : Nat)) (fun _ i => 8 - (intOf i).toNat)
  case atStart => exact ⟨0, by omega, rfl, rfl⟩
  case round =>
    obtain ⟨k, hk, rfl, rfl⟩ := hrel
    by_cases hlt : k < 8
    · have hck : w3.cell? ⟨b, off + k, none⟩ = some (.int .u8 (l.getD k 0 : Nat)) := by
        obtain ⟨p', cap', he, -, -, hp⟩ := HS3.out.2.1.form
        obtain ⟨b', off', hpe, hc⟩ := hp (by omega)
        simp only [Value.slice.injEq] at he
        obtain ⟨rfl, -, rfl⟩ := he
        simp only [Option.some.injEq, Addr.mk.injEq] at hpe
        obtain ⟨rfl, rfl, -⟩ := hpe
        exact hc k (by omega)
      have hx := HB.out.getD k
      have HN := Lib.hid (take_succ_getD l k (by omega))
      generalize l.getD k 0 = x at hck hx HN
      have HST := Lib.hid (num_step64 l k x hlt (by omega) HB.out.small hx HN.out)
      have hst2 := HST.out
      rw [show IntKind.u64.wrap ((x : Int) * 2 ^ (8 * k)) = (x : Int) * 2 ^ (8 * k) % 18446744073709551616 by simp [IntKind.wrap, IntKind.bits, IntKind.signed]] at hst2
      have HST2 := Lib.hid hst2
      clear hst2
      go_wp2
      go_round
      case rel => exact ⟨k + 1, by omega, by go_num, by first | rw [HST.out] | rw [HST2.out]⟩
      case measure => simp [intOf]; omega
    · obtain rfl : k = 8 := by omega
      have hc0 := cell2_0 HS3.out.1
      have hf := free2 HS3.out.1 0
      go_wp2
      refine wp_region_still_tail 9 (by kernel_rfl) (by kernel_rfl) ?_
      simp only [List.take_succ_cons, List.take_zero, List.drop_succ_cons, List.drop_zero]
      iterate 5 still_step
      still_call (calls_still (width64 _))
      repeat still_step
      refine wpStill_nil ?_
      go_wp2
      all_goals
        go_ret
        refine ⟨rfl, ?_, grownBy_trans (grownBy_below HW3.out _) (grownBy_trans (grownBy_drew _ _) (grownBy_setCell _ _ _ _))⟩
        refine (HS3.out.below (below_drew _ _)).move ?_ rfl
        try rw [← List.drop_one]
        first
          | exact (HS3.out.2.1.below (below_drew _ _)).drop 8 hl
          | (have hz : l.length = 8 := by omega
             rw [show l.drop 8 = [] from List.drop_eq_nil_of_le (by omega), hz]
             exact ⟨⟨_, _, rfl, by simp, (fun h => by simp at h), fun h => absurd h (by simp)⟩, by simp, by simp⟩)
theorem take64_any (lo : Nat → Prop) (B e : Nat) (l : List Nat) (w : World) (hR : Rd 217 lo w B l e) :
    Calls Tryz.prog 174 #[.pointer (some ⟨B, 0, none⟩)] w fun en w' => en = .returned (.int .u64 ((Cod.rdNum 8 l e).1 : Nat)) ∧ Rd 217 lo w' B (Cod.rdNum 8 l e).2.1 (Cod.rdNum 8 l e).2.2 ∧ w.grownBy w' (some B) := by
  unfold Cod.rdNum
  by_cases he : e ≠ 0
  · rw [if_pos he]
    exact (take64_err lo B e l w hR he).mono fun en w' ⟨h1, h2⟩ => by subst h2; exact ⟨h1, hR, grownBy_refl _ _⟩
  · obtain rfl : e = 0 := by omega
    rw [if_neg he]
    by_cases hl : l.length < 8
    · rw [if_pos hl]; exact take64_short lo B l w hR hl
    · rw [if_neg hl]; exact take64_ok lo B l w hR (by omega)
set_option maxHeartbeats 400000 in
set_option maxRecDepth 20000 in
theorem U64_any (lo : Nat → Prop) (B e : Nat) (l : List Nat) (w : World) (hR : Rd 217 lo w B l e) :
    Calls Tryz.prog 145 #[.pointer (some ⟨B, 0, none⟩)] w fun en w' => en = .returned (.int .u64 ((Cod.rdNum 8 l e).1 : Nat)) ∧ Rd 217 lo w' B (Cod.rdNum 8 l e).2.1 (Cod.rdNum 8 l e).2.2 ∧ w.grownBy w' (some B) := by
  have HR := Lib.hid hR
  clear hR
  go_enter Tryz.func145, Tryz.ntmps145
  go_wp2_with fail
  refine (take64_any lo B e l _ HR.out).mono ?_
  rintro en w1 ⟨rfl, h1, h2⟩
  have H1 := Lib.hid h1
  have H2 := Lib.hid h2
  clear h1 h2
  go_wp2
  go_ret
  exact ⟨rfl, H1.out, H2.out⟩
end Go.Proofs.YtbpodmallknhfaaGreat
namespace Go.Proofs.YtbpodmallknhfaaGreat
open Go.RowKit
end Go.Proofs.YtbpodmallknhfaaGreat
namespace Go.Proofs.YtbpodmallknhfaaGreat
open Go.RowKit
end Go.Proofs.YtbpodmallknhfaaGreat
