/- Parts of a proof. Conditions: as each row says. -/
import Derived.Test.YtbpodmallknhfaaGreatAr03
import Derived.Test.YtbpodmallknhfaaGreatAr09
import Derived.Test.YtbpodmallknhfaaGreatRows
import Derived.WalkKit
import Derived.WalkSpells
import Derived.WalkLawsBesides
import Derived.Lib.Hide
import Derived.Deep.WholeRow
import Derived.Deep.LoopGhost
import Derived.Deep.DeepCutAuto
import Derived.Deep.CutBlock
namespace Go.Proofs.YtbpodmallknhfaaGreat
open Go.RowKit
theorem and_one (x : Nat) (hx : x < 4294967296) : bits .and .u32 (x : Int) 1 = ((x % 2 : Nat) : Int) := by
  have h := u32_and_nat x 1 hx (by decide)
  rw [show ((1 : Nat) : Int) = (1 : Int) from rfl] at h
  rw [h, Nat.and_one_is_mod]
theorem xor_poly (x : Nat) (hx : x < 4294967296) : bits .xor .u32 ((x : Int) / 2) 2197175160 = ((x / 2 ^^^ Crc.poly : Nat) : Int) := by
  have h := u32_xor_nat (x / 2) Crc.poly (by omega) (by decide)
  rw [show ((Crc.poly : Nat) : Int) = (2197175160 : Int) from rfl] at h
  rw [show ((x : Int) / 2) = ((x / 2 : Nat) : Int) by omega]
  exact h
theorem H_odd (x : Nat) (hp : x % 2 = 1) : Crc.H x = x / 2 ^^^ Crc.poly := by unfold Crc.H; rw [if_pos hp]
theorem H_even (x : Nat) (hp : ¬ x % 2 = 1) : Crc.H x = x / 2 := by unfold Crc.H; rw [if_neg hp, Nat.xor_zero]
theorem odd_test (x : Nat) (hx : x < 4294967296) (hp : x % 2 = 1) : (bits .and .u32 (x : Int) 1 == 1) = true := by
  rw [and_one x hx, hp]; rfl
theorem even_test (x : Nat) (hx : x < 4294967296) (hp : ¬ x % 2 = 1) : (bits .and .u32 (x : Int) 1 == 1) = false := by
  rw [and_one x hx, show x % 2 = 0 by omega]; rfl
set_option maxHeartbeats 400000 in
theorem half_any (x : Nat) (w : World) (hx : x < 4294967296) :
    Calls Tryz.prog 178 #[.int .u32 (x : Int)] w fun e w' => e = .returned (.int .u32 (Crc.H x : Nat)) ∧ w = w' := by
  by_cases hp : x % 2 = 1
  · have ht := odd_test x hx hp
    have HP := Lib.hid hp
    clear hp
    go_enter Tryz.func178, Tryz.ntmps178
    go_wp2
    go_ret
    exact ⟨ret_int (by rw [xor_poly x hx, H_odd x HP.out]), rfl⟩
  · have ht := even_test x hx hp
    have HP := Lib.hid hp
    clear hp
    go_enter Tryz.func178, Tryz.ntmps178
    go_wp2
    go_ret
    exact ⟨ret_int (by rw [H_even x HP.out]; omega), rfl⟩
theorem low_xor (r b : Nat) (hb : b < 256) : bits .xor .u8 ((r : Int) % 256) (b : Int) = (((r % 256) ^^^ b : Nat) : Int) := by
  rw [show ((r : Int) % 256) = ((r % 256 : Nat) : Int) by omega]
  exact u8_xor_nat (r % 256) b (by omega) hb
theorem xor_u32 (a b : Nat) (ha : a < 4294967296) (hb : b < 4294967296) : bits .xor .u32 (a : Int) ((b : Nat) : Int) = ((a ^^^ b : Nat) : Int) := u32_xor_nat a b ha hb
set_option maxHeartbeats 400000 in
set_option maxRecDepth 20000 in
theorem take_any (r b : Nat) (B : Nat) (w : World) (hr : r < 4294967296) (hb : b < 256)
    (hc : ∀ i, i < 256 → w.cell? ⟨B, i, none⟩ = some (.int .u32 (Crc.S i : Nat))) :
    Calls Tryz.prog 159 #[.int .u32 (r : Int), .int .u8 (b : Int), .pointer (some ⟨B, 0, none⟩)] w fun e w' => e = .returned (.int .u32 (Crc.S (r ^^^ b) : Nat)) ∧ w = w' := by
  have hn : (r % 256) ^^^ b < 256 := Nat.xor_lt_two_pow (n := 8) (by omega) hb
  have h1 : 0 ≤ bits .xor .u8 ((r : Int) % 256) (b : Int) := by rw [low_xor r b hb]; omega
  have h2 : bits .xor .u8 ((r : Int) % 256) (b : Int) < 256 := by rw [low_xor r b hb]; omega
  have hcell : w.cell? ⟨B, (bits .xor .u8 ((r : Int) % 256) (b : Int)).toNat, none⟩ = some (.int .u32 (Crc.S ((r % 256) ^^^ b) : Nat)) := by
    rw [low_xor r b hb]; exact hc _ hn
  have hs : Crc.S ((r % 256) ^^^ b) < 4294967296 := Crc.S_lt (by omega)
  have HS := Lib.hid (Crc.step_tab r b)
  clear hc
  go_enter Tryz.func159, Tryz.ntmps159
  go_wp2
  go_ret
  refine ⟨ret_int ?_, rfl⟩
  rw [HS.out, show ((r : Int) / 256) = ((r / 256 : Nat) : Int) by omega]
  exact xor_u32 _ _ hs (by omega)
end Go.Proofs.YtbpodmallknhfaaGreat
namespace Go.Proofs.YtbpodmallknhfaaGreat
open Go.RowKit
theorem not_u32 (s : Nat) (hs : s < 4294967296) : bits .xor .u32 IntKind.u32.max (s : Int) = ((Crc.ones ^^^ s : Nat) : Int) := by
  have h := u32_xor_nat Crc.ones s (by decide) hs
  exact h
end Go.Proofs.YtbpodmallknhfaaGreat
namespace Go.Proofs.YtbpodmallknhfaaGreat
open Go.RowKit
theorem zero33 : (∀ w, (zeroValue 207).run Tryz.prog w = .ok (.agg (Array.replicate 256 (.int .u32 0))) w) ∧ (Tryz.prog.info? 207).map (·.size) = some 256 :=
  zero_of_info (by kernel_rfl)
structure Tab (cs : Array Value) (m q x : Nat) : Prop where
  size : cs.size = 256
  all : ∀ i, i < 256 → i % m = 0 → cs[i]? = some (.int .u32 (Crc.S i : Nat))
  some : ∀ i, i < x → i < 256 → i % q = 0 → cs[i]? = some (.int .u32 (Crc.S i : Nat))
  ones : cs.all (·.oneCell') = true
theorem pow_add_xor : ∀ g, g < 8 → ∀ x, x < 256 → x % 2 ^ (g + 1) = 0 → x ^^^ 2 ^ g = x + 2 ^ g := by decide +kernel
theorem below_setRow {B : Nat} {a w : World} (h : Below B a w) {g : Nat} (hg : B ≤ g) (cs : Array Value) : Below B a (w.setRow g cs) :=
  h.trans ⟨rfl, rfl, rfl, by simp, fun k hk => setRow_other w g k cs (by omega)⟩
theorem all_set {cs : Array Value} (h : cs.all (·.oneCell') = true) (i : Nat) (v : Value) (hv : v.oneCell' = true) : (cs.setIfInBounds i v).all (·.oneCell') = true := by
  rw [Array.all_eq_true_iff_forall_mem] at h ⊢
  intro x hx
  rcases Array.mem_or_eq_of_mem_setIfInBounds hx with hx | rfl
  · exact h x hx
  · exact hv
theorem Tab.put {cs : Array Value} {g x : Nat} (h : Tab cs (2 ^ (g + 1)) (2 ^ g) x) (hg : g < 8) (hx : x < 256) (hm : x % 2 ^ (g + 1) = 0) :
    Tab (cs.setIfInBounds (x + 2 ^ g) (.int .u32 ((Crc.S x ^^^ Crc.Hn (8 - g) 1 : Nat) : Int))) (2 ^ (g + 1)) (2 ^ g) (x + 2 * 2 ^ g) := by
  have he : Crc.S x ^^^ Crc.Hn (8 - g) 1 = Crc.S (x + 2 ^ g) := by
    rw [← pow_add_xor g hg x hx hm, Crc.S_xor]
    congr 1
    show Crc.Hn (8 - g) 1 = Crc.Hn 8 (2 ^ g)
    have := Crc.Hn_add g (8 - g) (2 ^ g * 1)
    rw [Crc.Hn_shift, Nat.mul_one, show g + (8 - g) = 8 by omega] at this
    exact this.symm
  rw [he]
  have hs := h.size
  have hq : 0 < 2 ^ g := Nat.pow_pos (by decide)
  have hp : 2 ^ (g + 1) = 2 * 2 ^ g := Nat.pow_succ'
  rw [hp] at hm
  generalize 2 ^ g = q at *
  rw [hp] at h ⊢
  have hxq : (x + q) % (2 * q) = q := by
    obtain ⟨m, hm'⟩ := Nat.dvd_of_mod_eq_zero hm
    rw [hm', Nat.add_comm, Nat.add_mul_mod_self_left, Nat.mod_eq_of_lt (by omega)]
  refine ⟨by simpa using hs, fun i hi hi2 => ?_, fun i hi hi2 hi3 => ?_, all_set h.ones _ _ rfl⟩
  · have hne : x + q ≠ i := by
      intro e
      rw [← e, hxq] at hi2
      omega
    rw [Array.getElem?_setIfInBounds, if_neg hne]
    exact h.all i hi hi2
  · rw [Array.getElem?_setIfInBounds]
    by_cases e : x + q = i
    · rw [if_pos e, if_pos (by omega), e]
    · rw [if_neg e]
      rcases Nat.lt_or_ge i x with hlt | hge
      · exact h.some i hlt hi2 hi3
      · obtain ⟨a, ha⟩ := Nat.dvd_of_mod_eq_zero hi3
        obtain ⟨b, hb⟩ := Nat.dvd_of_mod_eq_zero hm
        have e1 : q * (2 * b) = x := by rw [hb, Nat.mul_left_comm, Nat.mul_assoc]
        have l1 : 2 * b ≤ a := Nat.le_of_mul_le_mul_left (by omega : q * (2 * b) ≤ q * a) hq
        have l2 : a < 2 * b + 2 := Nat.lt_of_mul_lt_mul_left (by rw [Nat.mul_add]; omega : q * a < q * (2 * b + 2))
        have l3 : a ≠ 2 * b + 1 := by
          intro e3
          apply e
          rw [ha, e3, Nat.mul_add, e1]; omega
        have l4 : a = 2 * b := by omega
        refine h.all i hi2 ?_
        rw [ha, l4, e1, hb, Nat.mul_mod_right]
theorem Tab.next {cs : Array Value} {g x : Nat} (h : Tab cs (2 ^ (g + 1)) (2 ^ g) x) (hx : 256 ≤ x) : Tab cs (2 ^ g) (2 ^ g / 2) 0 :=
  ⟨h.size, fun i hi h0 => h.some i (by omega) hi h0, fun i hi => absurd hi (by omega), h.ones⟩
theorem Tab.start {cs : Array Value} {m q q' : Nat} (h : Tab cs m q 0) : Tab cs m q' 0 := ⟨h.size, h.all, fun i hi => absurd hi (by omega), h.ones⟩
theorem tab_zero : Tab (Array.replicate 256 (.int .u32 0)) 256 128 0 := by
  refine ⟨by simp, fun i hi h0 => ?_, fun i hi => absurd hi (by omega), by decide +kernel⟩
  obtain rfl : i = 0 := by omega
  rw [Array.getElem?_replicate, if_pos (by decide), show Crc.S 0 = 0 from Crc.Hn_zero 8]
  rfl
theorem fill_eq (g q : Nat) (hg : g + 1 ≤ 8) (hq : q = 2 ^ g) : 0 + 2 ^ (7 - g) * (2 * q) = 256 := by
  rw [hq, ← Nat.pow_succ', ← Nat.pow_add, show 7 - g + (g + 1) = 8 by omega]
set_option maxHeartbeats 400000 in
set_option maxRecDepth 20000 in
theorem table_any (w : World) :
    Calls Tryz.prog 158 #[] w fun e w' => ∃ cs : Array Value, e = .returned (.agg cs) ∧ cs.size = 256 ∧ (∀ i, i < 256 → cs[i]? = some (.int .u32 (Crc.S i : Nat))) ∧ Below w.heap.size w w' := by
  have hz := zero33.1
  go_enter Tryz.func158, Tryz.ntmps158
  go_wp2
  obtain ⟨w1, hw1⟩ : ∃ w1, w1 = w.alloc (.cells (Array.replicate 256 (.int .u32 0)) 207) := ⟨_, rfl⟩
  rw [← hw1]
  have hs1 : w.heap.size + 1 = w1.heap.size := by rw [hw1]; simp
  rw [hs1]
  have HS1 := Lib.hid hs1
  have HW1 := Lib.hid hw1
  clear hs1 hw1 hz
  go_loopg [2, 3] 8 (fun g r bit wx => ∃ cs : Array Value, g ≤ 8 ∧ Tab cs (2 ^ g) (2 ^ g / 2) 0 ∧ bit = .int .i64 (2 ^ g / 2 : Nat) ∧ r = .int .u32 (Crc.Hn (8 - g) 1 : Nat) ∧ wx = w1.alloc (.cells cs 207))
  case atStart => exact ⟨_, by omega, tab_zero, rfl, rfl, rfl⟩
  case round =>
    obtain ⟨cs, hg, hT, rfl, rfl, rfl⟩ := hrel
    have HT := Lib.hid hT
    clear hT
    cases gk with
    | zero =>
      rw [show ((2 ^ 0 / 2 : Nat) : Int) = 0 from rfl]
      have hr : Crc.Hn (8 - 0) 1 < 4294967296 := Crc.Hn_lt _ (by decide)
      generalize Crc.Hn (8 - 0) 1 = r at hr ⊢
      have hsz : (Tryz.prog.info? 207).map (·.size) = some cs.size := by rw [HT.out.size]; exact zero33.2
      have hg1 : (w1.alloc (.cells cs 207)).heap[w1.heap.size]? = some (.cells cs 207 (0, 0)) := heap_alloc_last _ _
      have hg0 : (w1.alloc (.cells cs 207)).heap[w.heap.size]? = some (.cells (Array.replicate 256 (.int .u32 0)) 207 (0, 0)) := by
        rw [show (w1.alloc (.cells cs 207)).heap[w.heap.size]? = w1.heap[w.heap.size]? from Below.heap_alloc _ _ _ (by have := HS1.out; omega), HW1.out]
        exact heap_alloc_last _ _
      have hone := HT.out.ones
      have hcs := HT.out.size
      have hall := HT.out.all
      have HSZ := Lib.hid hsz
      have HG1 := Lib.hid hg1
      have HG0 := Lib.hid hg0
      have HONE := Lib.hid hone
      have HCS := Lib.hid hcs
      have HALL := Lib.hid hall
      clear hsz hg1 hg0 hone hcs hall HT
      go_upto_region 11 with (fail)
      go_step
      refine wpList_load_row rfl 207 (.tmp 1) rfl w1.heap.size rfl 207 cs (0, 0) _ HG1.out Tryz.underlying207 rfl HSZ.out ?_
      refine wpList_store_row rfl 207 (.tmp 0) (.tmp 26) rfl w.heap.size cs rfl rfl 207 (Array.replicate 256 (.int .u32 0)) HG0.out HSZ.out (by rw [HCS.out]; simp) HONE.out ?_
      go_wp2
      refine bodyPost_ret (v := .agg cs) ?_ rfl ⟨cs, rfl, HCS.out, fun i hi => HALL.out i hi (Nat.mod_one i), ?_⟩
      · exact results_cell_row rfl _ _ w.heap.size 207 cs (0, 0) _ rfl (setRow_heap _ _ _ _ _ _ HG0.out) Tryz.underlying207 rfl HSZ.out
      · have hs := HS1.out
        have h0 : Below w.heap.size w w1 := by rw [HW1.out]; exact (Below.refl _ _).alloc (Nat.le_refl _) _
        exact below_setRow (h0.alloc (by omega) _) (Nat.le_refl _) _
    | succ g =>
      rw [show (2 ^ (g + 1) / 2 : Nat) = 2 ^ g by rw [Nat.pow_succ]; omega] at HT ⊢
      obtain ⟨q, hq⟩ : ∃ q, q = 2 ^ g := ⟨_, rfl⟩
      have hq1 : 1 ≤ q := by rw [hq]; exact Nat.pow_pos (by decide)
      have hq2 : q ≤ 128 := by rw [hq]; exact Nat.pow_le_pow_right (by decide) (by omega : g ≤ 7)
      rw [← hq]
      have HQ := Lib.hid hq
      have hr : Crc.Hn (8 - (g + 1)) 1 < 4294967296 := Crc.Hn_lt _ (by decide)
      have HR := Lib.hid (Crc.Hn_succ (8 - (g + 1)) 1)
      rw [show 8 - (g + 1) + 1 = 8 - g by omega] at HR
      clear hq
      generalize Crc.Hn (8 - (g + 1)) 1 = r at hr HR ⊢
      go_wp2_with (go_at_call 178; refine (half_any _ _ hr).mono ?_; rintro e w' ⟨rfl, rfl⟩)
      have hr2 : Crc.H r < 4294967296 := Crc.H_lt hr
      rw [← HR.out]
      rw [← HR.out] at hr2
      have HG := Lib.hid hg
      clear HR hg hr
      go_loopg [4] (2 ^ (7 - g)) (fun k s4 wx => ∃ (x : Nat) (cs : Array Value), x + k * (2 * q) = 256 ∧ x % (2 * q) = 0 ∧ Tab cs (2 ^ (g + 1)) (2 ^ g) x ∧ s4 = .int .i64 x ∧ wx = w1.alloc (.cells cs 207))
      case atStart => exact ⟨0, cs, fill_eq g q HG.out HQ.out, by simp, HT.out.start, rfl, rfl⟩
      case round =>
        obtain ⟨x, cs', hxk, hxm, hT, rfl, rfl⟩ := hrel
        have HT' := Lib.hid hT
        have HXM := Lib.hid hxm
        clear hT hxm HT
        cases gk with
        | zero =>
          obtain rfl : x = 256 := by omega
          go_wp2
          go_roundg g
          case measure => omega
          case rel => exact ⟨cs', by have := HG.out; omega, HT'.out.next (Nat.le_refl _), by rw [← HQ.out]; rfl, rfl, rfl⟩
        | succ k =>
          rw [Nat.add_mul] at hxk
          have hx1 : x < 256 := by omega
          have hx2 : x + q < 256 := by omega
          have HXK := Lib.hid hxk
          clear hxk
          have hsz := HT'.out.size
          have hlt : x < cs'.size := by omega
          have hcx : cs'[x] = .int .u32 (Crc.S x : Nat) := by
            have := HT'.out.all x hx1 (by rw [Nat.pow_succ', ← HQ.out]; exact HXM.out)
            rw [Array.getElem?_eq_getElem hlt] at this
            exact Option.some.inj this
          have hsx : Crc.S x < 4294967296 := Crc.S_lt (by omega)
          go_wp2
          go_roundg k
          case measure => omega
          case rel =>
            have hp := HT'.out.put (by have := HG.out; omega) hx1 (by rw [Nat.pow_succ', ← HQ.out]; exact HXM.out)
            rw [← HQ.out] at hp
            refine ⟨x + 2 * q, _, by have := HXK.out; omega, by rw [Nat.add_mod_right]; exact HXM.out, by rw [← HQ.out]; exact hp, by go_num, ?_⟩
            rw [xor_u32 _ _ hsx hr2]
end Go.Proofs.YtbpodmallknhfaaGreat
namespace Go.Proofs.YtbpodmallknhfaaGreat
open Go.RowKit
theorem ones_of {cs : Array Value} (hcs : cs.size = 256) (hall : ∀ i, i < 256 → cs[i]? = some (.int .u32 (Crc.S i : Nat))) : cs.all (·.oneCell') = true := by
  rw [Array.all_eq_true]
  intro i hi
  have := hall i (by omega)
  rw [Array.getElem?_eq_getElem hi] at this
  rw [Option.some.inj this]; rfl
set_option maxHeartbeats 800000 in
set_option maxRecDepth 20000 in
theorem more_any (s : Nat) (v : Value) (l : List Nat) (w : World) (hs : s < 4294967296) (hB : Bts w v l) :
    Calls Tryz.prog 120 #[.int .u32 (s : Int), v] w fun e w' => e = .returned (.int .u32 (Crc.more s l : Nat)) ∧ Below w.heap.size w w' := by
  have HB := Lib.hid hB
  obtain ⟨p, cap, rfl, -, -, hp⟩ := hB.form
  have hlen := hB.len
  clear hp hB
  have hz := zero33.1
  have hmf : ∀ (fn : Fn) (first cap : Array Value) (w : World), (Instr.makeFunc fn first cap).run Tryz.prog w = .ok (.func fn first cap) w := fun _ _ _ _ => rfl
  go_enter Tryz.func120, Tryz.ntmps120
  go_wp2_with fail
  refine (table_any _).mono ?_
  rintro e w1 ⟨cs, rfl, hcs, hall, hbel⟩
  have hone := ones_of hcs hall
  have hsz : (Tryz.prog.info? 207).map (·.size) = some cs.size := by rw [hcs]; exact zero33.2
  have hg : (w1.alloc (.cells (Array.replicate 256 (.int .u32 0)) 207)).heap[w1.heap.size]? = some (.cells (Array.replicate 256 (.int .u32 0)) 207 (0, 0)) := heap_alloc_last _ _
  have hcell : ∀ i, i < 256 → (w1.alloc (.cells cs 207)).cell? ⟨w1.heap.size, i, none⟩ = some (.int .u32 (Crc.S i : Nat)) := by
    intro i hi
    rw [cell_of_row _ w1.heap.size i cs 207 (0, 0) (heap_alloc_last _ _)]
    exact hall i hi
  have HSZ := Lib.hid hsz
  have HG := Lib.hid hg
  have HCELL := Lib.hid hcell
  have HCS := Lib.hid hcs
  have HW := Lib.hid ((hbel.alloc hbel.size (.cells cs 207)))
  clear hsz hg hcell hcs hall
  dsimp only
  go_at_K
  go_step
  go_step
  go_step
  go_step
  refine wpList_store_row rfl 207 (.tmp 5) (.tmp 10) rfl w1.heap.size cs rfl rfl 207 (Array.replicate 256 (.int .u32 0)) HG.out HSZ.out (by rw [HCS.out]; simp) hone ?_
  rw [World.setRow_alloc_new]
  clear hz hone hbel
  have HB2 := Lib.hid (HB.out.below HW.out)
  generalize w1.alloc (.cells cs 207) = W at HCELL HW HB2 ⊢
  generalize w1.heap.size = B at HCELL ⊢
  go_wp2
  rw [not_u32 s hs]
  go_loop [7, 16] (fun r i => ∃ k : Nat, k ≤ l.length ∧ i = .int .i64 k ∧ r = .int .u32 (Crc.raw (Crc.ones ^^^ s) (l.take k) : Nat)) (fun _ i => l.length - (intOf i).toNat)
  case atStart => exact ⟨0, by omega, rfl, rfl⟩
  case round =>
    obtain ⟨k, hk, rfl, rfl⟩ := hrel
    have hr : Crc.raw (Crc.ones ^^^ s) (l.take k) < 4294967296 := Crc.raw_lt (Nat.xor_lt_two_pow (n := 32) (by decide) hs) (HB.out.mem_take k)
    by_cases hlt : k < l.length
    · have HS := Lib.hid (Crc.raw_snoc (Crc.ones ^^^ s) (l.take k) (l.getD k 0))
      rw [← take_succ_getD l k hlt] at HS
      have hy := HB.out.getD k
      obtain ⟨p', cap', he, -, -, hp⟩ := HB2.out.form
      obtain ⟨b, off, hpe, hc⟩ := hp (by omega)
      have hck := hc k hlt
      simp only [Value.slice.injEq] at he
      obtain ⟨rfl, -, rfl⟩ := he
      subst hpe
      clear hc hp
      generalize Crc.raw (Crc.ones ^^^ s) (l.take k) = r at hr HS ⊢
      generalize l.getD k 0 = y at hy HS hck
      go_wp2_with (go_at_call 159; refine (take_any r y B _ hr hy HCELL.out).mono ?_; rintro e w' ⟨rfl, rfl⟩)
      go_round
      case rel => exact ⟨k + 1, by omega, by go_num, by rw [HS.out]⟩
      case measure => simp [intOf]; omega
    · obtain rfl : k = l.length := by omega
      rw [List.take_length] at hr ⊢
      go_wp2
      go_ret
      exact ⟨ret_int (not_u32 _ hr), HW.out⟩
set_option maxHeartbeats 400000 in
theorem sum_any (v : Value) (l : List Nat) (w : World) (hB : Bts w v l) :
    Calls Tryz.prog 86 #[v] w fun e w' => e = .returned (.int .u32 (Crc.more 0 l : Nat)) ∧ Below w.heap.size w w' := by
  have HB := Lib.hid hB
  clear hB
  go_enter Tryz.func86, Tryz.ntmps86
  go_wp2_with (go_at_call 120; refine (more_any 0 _ _ _ (by decide) HB.out).mono ?_; rintro e w' ⟨rfl, hb⟩)
  go_ret
  exact ⟨rfl, by assumption⟩
end Go.Proofs.YtbpodmallknhfaaGreat
