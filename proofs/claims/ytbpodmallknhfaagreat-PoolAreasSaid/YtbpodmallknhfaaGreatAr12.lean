/- Parts of a proof. Conditions: as each row says. -/
import Derived.Test.YtbpodmallknhfaaGreatAr03
import Derived.RangeFuncBox
import Derived.RangeFuncWrites
import Derived.RangeFuncLeaves
import Derived.Shelf.Abstract
import Derived.WalkKit
import Derived.OwnWalkIn
import Derived.TacticsInMore
import Derived.LoopNIn
import Derived.LoopIn
import Derived.Maps.AppendAt
import Derived.IntWalk
import Derived.Sort.QuietIn
namespace Go.Proofs.YtbpodmallknhfaaGreat
open Go.RowKit Go.Shelf
attribute [local go_sem] Oper.semAt_some
def ckN (m x : Nat) : Nat := if x < m then x else 0
def ckL (len K x : Nat) : Nat := min K (len - K * x)
def ckV (b off len K x : Nat) : Value := .slice (some ⟨b, off + K * x, none⟩) (ckL len K x) (ckL len K x)
theorem ckN_lt {m : Nat} (h : 0 < m) (x : Nat) : ckN m x < m := by unfold ckN; split <;> omega
theorem ckN_of {m x : Nat} (h : x < m) : ckN m x = x := if_pos h
def Kp2 (Bs Bn : Nat) (W W' : World) : Prop := W'.cell? ⟨Bs, 0, none⟩ = W.cell? ⟨Bs, 0, none⟩ ∧ W'.cell? ⟨Bn, 0, none⟩ = W.cell? ⟨Bn, 0, none⟩
theorem Kp2.refl (Bs Bn : Nat) (W : World) : Kp2 Bs Bn W W := ⟨rfl, rfl⟩
theorem Kp2.trans {Bs Bn : Nat} {A B C : World} (h : Kp2 Bs Bn A B) (k : Kp2 Bs Bn B C) : Kp2 Bs Bn A C := ⟨k.1.trans h.1, k.2.trans h.2⟩
theorem Kp2.put {Bs Bn n₀ : Nat} {W : World} {l : Nat} (o' : Obj) (hl : n₀ ≤ l) (h1 : Bs < n₀) (h2 : Bn < n₀) : Kp2 Bs Bn W (W.putObj l o') := by
  have e : ∀ B, B ≠ l → (W.putObj l o').heap[B]? = W.heap[B]? := fun B hB => World.putObj_heap_other hB
  constructor
  · unfold World.cell?; rw [e Bs (by omega)]
  · unfold World.cell?; rw [e Bn (by omega)]
set_option maxRecDepth 100000 in
set_option maxHeartbeats 2000000 in
theorem chunk1_in (F : Fence) (n : Nat) (h7 : F.fn 142) (hro : F.round = none) (hn : 1 ≤ n) (l Bs Bn b off len cap K m : Nat) (hK : 1 ≤ K ∧ K ≤ 1000) (hlen : len ≤ 100000) (hcap : len ≤ cap) (hm : len ≤ K * m ∧ K * m < len + K)
    (J Jx : List Nat → World → Prop)
    (hY : ∀ pre x W, J pre W → pre.length < m → YieldAt F (n - 1) Tryz.prog l #[ckV b off len K (ckN m x)] W fun e W' =>
      (e = .returned (.bool true) ∧ J (pre ++ [x]) W' ∧ Kp2 Bs Bn W W') ∨ (e = .returned (.bool false) ∧ Jx (pre ++ [x]) W'))
    (W : World) (hBs : W.cell? ⟨Bs, 0, none⟩ = some (.slice (some ⟨b, off, none⟩) len cap)) (hBn : W.cell? ⟨Bn, 0, none⟩ = some (.int .i64 (K : Int))) (h0 : J [] W) (hJd : ∀ pre w, J pre w → J pre w.drew) :
    CallsIn F n Tryz.prog 142 #[.func (.yield l) #[] #[], .pointer (some ⟨Bs, 0, none⟩), .pointer (some ⟨Bn, 0, none⟩)] W fun e W' => (∃ v, e = .returned v) ∧
      ((∃ ys, ys = List.range m ∧ J ys W') ∨ (∃ pre, (∃ k, k ≤ m ∧ pre = List.range k) ∧ Jx pre W')) := by
  refine callsIn_of_wp Tryz.func142 rfl h7 ?_ hro
  simp only [Tryz.ntmps142, List.size_toArray, List.length_cons, List.length_nil, Nat.reduceAdd, Nat.reduceSub, Array.replicate_succ, Array.replicate_zero, List.push_toArray, List.append_toArray, List.nil_append, List.cons_append]
  gi_wp2
  gi_loopw [4] (fun i wr => ∃ k : Nat, k ≤ m ∧ i = .int .i64 ((K * k : Nat) : Int) ∧ J (List.range k) wr ∧ Kp2 Bs Bn W wr)
    (fun i _ => len + K - (intOf i).toNat)
  case atStart => exact ⟨0, Nat.zero_le _, rfl, h0, Kp2.refl _ _ _⟩
  case round =>
    obtain ⟨k, hk, rfl, hJs, hnx⟩ := hrel
    have hcs : wr.cell? ⟨Bs, 0, none⟩ = some (.slice (some ⟨b, off, none⟩) len cap) := hnx.1.trans hBs
    have hcn : wr.cell? ⟨Bn, 0, none⟩ = some (.int .i64 (K : Int)) := hnx.2.trans hBn
    by_cases hlt : k < m
    · have hkm : K * k + K ≤ K * m := by
        have := Nat.mul_le_mul_left K (show k + 1 ≤ m from hlt)
        rw [Nat.mul_succ] at this; exact this
      obtain ⟨q, hq⟩ : ∃ q, q = K * k := ⟨_, rfl⟩
      obtain ⟨E, hE⟩ : ∃ E, E = ckL len K k := ⟨_, rfl⟩
      have hEq : E = min K (len - q) := by rw [hE, hq]; rfl
      have hkm' : q + K ≤ K * m := by rw [hq]; exact hkm
      have hqk : (K : Int) * (k : Int) = (q : Int) := by rw [hq]; simp
      have hql : q < len := by omega
      have hqi : (q : Int) < (len : Int) := by omega
      have hmin : min (K : Int) ((len : Int) - (q : Int)) = (E : Int) := by rw [hEq]; omega
      rw [show ((K * k : Nat) : Int) = (q : Int) by rw [hq]]
      have g1 : ¬ (q : Int) < 0 := by omega
      have g2 : (q : Int) ≤ (len : Int) := by omega
      have g3 : q ≤ len := by omega
      have hqE : q + E ≤ len := by rw [hEq]; omega
      have hw1 := IntWalk.i64_in ((q : Int) + (E : Int)) (by omega)
      have hw2 := IntWalk.i64_in ((q : Int) + (K : Int)) (by omega)
      have HG : Hid (_ ∧ _ ∧ _ ∧ _ ∧ _ ∧ _ ∧ _ ∧ _ ∧ _) := ⟨hqi, hmin, g1, g2, g3, hqE, hw1, hw2, hkm'⟩
      have HKM := Lib.hid hkm
      have HHQ := Lib.hid hq
      have HHE := Lib.hid hE
      have HEE := Lib.hid hEq
      clear hqi hmin g1 g2 g3 hqE hw1 hw2 hkm' hkm hqk hq hE hEq
      gi_wp2
      obtain ⟨hqi, hmin, g1, g2, g3, hqE, hw1, hw2, -⟩ := HG.out
      refine wpIn_region_quiet_lit hro (by kernel_rfl) (by kernel_rfl) ?_
      repeat (gi_big_quiet_step (fail))
      refine wpQuietIn_nil ?_
      rintro wq ⟨nq, rfl⟩
      have hif : (if len - q < K then ((len - q : Nat) : Int) else (K : Int)) = (E : Int) := by
        have := HEE.out
        split <;> omega
      rw [hif]
      have hJq : ∀ i : Nat, J (List.range k) (wr.drewN i) := fun i => by
        induction i with
        | zero => exact hJs
        | succ i ih => exact hJd _ _ ih
      obtain ⟨fn, tmps, assign, body, hy, hR⟩ := hY _ k (wr.drewN nq) (hJq nq) (by simp; exact hlt)
      rw [ckN_of hlt] at hy
      unfold ckV at hy
      rw [← HHE.out, ← HHQ.out] at hy
      have hcs2 : (wr.drewN nq).cell? ⟨Bs, 0, none⟩ = some (.slice (some ⟨b, off, none⟩) len cap) := hcs
      have g4 : q ≤ q + E := by omega
      have g5 : (q : Int) ≤ (q : Int) + (E : Int) := by omega
      have g6 : (q : Int) + (E : Int) ≤ (cap : Int) := by omega
      have g7 : q + E ≤ cap := by omega
      have g8 : ¬ E = 0 := by have := HEE.out; omega
      have g9 : ¬ q + E = q := by omega
      have hnd : Kp2 Bs Bn W (wr.drewN nq) := hnx
      have HND := Lib.hid hnd
      clear hJq hJs hcs hcn hnx hnd hif g1 g2 g3 hqi hmin HG hJd h0 HEE
      generalize wr.drewN nq = w2 at *
      gi_wp2
      refine hR.mono ?_
      rintro e W3 (⟨rfl, hJ3, hk3⟩ | ⟨rfl, hJx3⟩)
      · have hcn3 : W3.cell? ⟨Bn, 0, none⟩ = some (.int .i64 (K : Int)) := (HND.out.trans hk3).2.trans hBn
        clear hcs2
        gi_wp2
        go_roundw
        case rel => exact ⟨k + 1, by omega, by rw [show K * (k + 1) = q + K by rw [HHQ.out, Nat.mul_succ]]; simp, by rw [List.range_succ]; exact hJ3, HND.out.trans hk3⟩
        case measure => simp [intOf]; omega
      · gi_wp2
        refine bodyPost_ret (results_none rfl _ _ _) rfl ?_
        exact ⟨⟨_, rfl⟩, .inr ⟨_, ⟨k + 1, by omega, (List.range_succ).symm⟩, hJx3⟩⟩
    · obtain rfl : k = m := by omega
      have hlt2 : ¬ K * k < len := by omega
      gi_wp2
      go_end0
      exact ⟨⟨_, rfl⟩, .inl ⟨_, rfl, hJs⟩⟩
end Go.Proofs.YtbpodmallknhfaaGreat
