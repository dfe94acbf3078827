/- What Order answers: the order of two hits; and where it lays blocks and draws. -/
import Derived.Test.YtljichhmfbefaaaHitOrd
import Derived.Test.YtljichhmfbefaaaOrd
namespace Go.Proofs.Ytljichhmfbefaaa
open Go.RowKit Go.Sort

/-- The world went on: it drew, and laid blocks. -/
def Went (a b : World) : Prop := ∃ q os, b = grow (a.drewN q) os
theorem Went.refl (a : World) : Went a a := ⟨0, #[], by simp [World.drewN]⟩
theorem drewN_grow (w : World) (os : Array Obj) (n : Nat) : (grow w os).drewN n = grow (w.drewN n) os := rfl
theorem Went.trans {a b c : World} (h : Went a b) (k : Went b c) : Went a c := by
  obtain ⟨q, os, rfl⟩ := h
  obtain ⟨q2, os2, rfl⟩ := k
  exact ⟨q + q2, os ++ os2, by rw [drewN_grow, grow_grow, World.drewN_drewN]⟩
theorem Went.drew {a b : World} (h : Went a b) : Went a b.drew := h.trans ⟨1, #[], by simp; rfl⟩
theorem Went.drewN {a b : World} (h : Went a b) (n : Nat) : Went a (b.drewN n) := h.trans ⟨n, #[], by simp⟩
theorem Went.alloc {a b : World} (h : Went a b) (o : Obj) : Went a (b.alloc o) := h.trans ⟨0, #[o], by rw [alloc_eq_grow]; rfl⟩
theorem Went.below {a b : World} (h : Went a b) : Below a.heap.size a b := by
  obtain ⟨q, os, rfl⟩ := h
  exact ⟨rfl, rfl, rfl, by simp [World.drewN], fun k hk => heap_grow_old _ _ (by simpa [World.drewN] using hk)⟩
theorem Went.cell {a b : World} (h : Went a b) {p : Addr} {v : Value} (hc : a.cell? p = some v) : b.cell? p = some v := by
  rw [h.below.cell (block_lt_of_cell hc)]; exact hc

/-- What each operation of Order's leaves. -/
def OrdF (B : Nat) (kx dx ky dy c1 c2 r : Int) (i : Nat) (v : Value) (w : World) : Prop :=
  match i with
  | 0 => v = .pointer (some ⟨B, 1, none⟩)
  | 1 => v = .int .i64 dx
  | 2 => v = .pointer (some ⟨B + 1, 1, none⟩)
  | 3 => v = .int .i64 dy
  | 4 => v = .int .i64 c1
  | 5 => v = .pointer (some ⟨B, 0, none⟩)
  | 6 => v = .int .u64 kx
  | 7 => v = .pointer (some ⟨B + 1, 0, none⟩)
  | 8 => v = .int .u64 ky
  | 9 => v = .int .i64 c2
  | 10 => ∃ b, v = .slice (some ⟨b, 0, none⟩) 2 2 ∧ w.cell? ⟨b, 0, none⟩ = some (.int .i64 c1) ∧ w.cell? ⟨b, 1, none⟩ = some (.int .i64 c2)
  | _ => v = .int .i64 r

theorem ordF_went {B : Nat} {kx dx ky dy c1 c2 r : Int} (i : Nat) (v : Value) (w w' : World) (ht : Went w w') (h : OrdF B kx dx ky dy c1 c2 r i v w) : OrdF B kx dx ky dy c1 c2 r i v w' := by
  unfold OrdF at *
  split at h <;> try exact h
  obtain ⟨b, h1, h2, h3⟩ := h
  exact ⟨b, h1, ht.cell h2, ht.cell h3⟩

set_option maxHeartbeats 2000000 in
set_option maxRecDepth 20000 in
theorem order_any (x y : Hit) (w : World) :
    Calls Try.prog 17 #[.agg #[.int .u64 (x.1.toNat : Int), .int .i64 x.2.toInt], .agg #[.int .u64 (y.1.toNat : Int), .int .i64 y.2.toInt]] w fun e w' => e = .returned (.int .i64 (Hp.ord x y)) ∧ Went w w' := by
  rw [← ord_or]
  generalize (x.1.toNat : Int) = kx
  generalize x.2.toInt = dx
  generalize (y.1.toNat : Int) = ky
  generalize y.2.toInt = dy
  have hor := fun (b : Nat) (W : World) h0 h1 => or_any b (Vp.cmp3 dx dy) (Vp.cmp3 kx ky) W h0 h1
  have h1 := fun W => cmp64_any dx dy W
  have h2 := fun W => cmpU_any kx ky W
  generalize orI (Vp.cmp3 dx dy) (Vp.cmp3 kx ky) = r at *
  generalize Vp.cmp3 dx dy = c1 at *
  generalize Vp.cmp3 kx ky = c2 at *
  have HOR := Lib.hid hor
  have H1 := Lib.hid h1
  have H2 := Lib.hid h2
  clear hor h1 h2
  go_enter Try.func17, Try.ntmps17
  go_wp2_with fail
  obtain ⟨w1, hw1⟩ : ∃ w1, w1 = (w.alloc (Obj.cells #[Value.int IntKind.u64 kx, Value.int IntKind.i64 dx] 35)).alloc (Obj.cells #[Value.int IntKind.u64 ky, Value.int IntKind.i64 dy] 35) := ⟨_, rfl⟩
  have hG : Went w w1 := by rw [hw1]; exact ((Went.refl w).alloc _).alloc _
  have d1 : w1.cell? ⟨w.heap.size, 0, none⟩ = some (Value.int IntKind.u64 kx) := by rw [hw1]; simp
  have d2 : w1.cell? ⟨w.heap.size, 1, none⟩ = some (Value.int IntKind.i64 dx) := by rw [hw1]; simp
  have d3 : w1.cell? ⟨w.heap.size + 1, 0, none⟩ = some (Value.int IntKind.u64 ky) := by rw [hw1]; simp
  have d4 : w1.cell? ⟨w.heap.size + 1, 1, none⟩ = some (Value.int IntKind.i64 dy) := by rw [hw1]; simp
  rw [← hw1]
  clear hw1
  have HG := Lib.hid hG
  have D1 := Lib.hid d1
  have D2 := Lib.hid d2
  have D3 := Lib.hid d3
  have D4 := Lib.hid d4
  clear hG d1 d2 d3 d4
  generalize w.heap.size = B at *
  refine Ord.walk (OrdF B kx dx ky dy c1 c2 r) (fun _ _ w' => Went w1 w') Went
    (by kernel_rfl) (by kernel_rfl) ?fr ?hfr ordF_went (fun xs => (Went.refl w1).drew) ?he ?hend
  case hfr =>
    intro xs
    simp only [Ord.fill, Act.put, List.setIfInBounds_toArray, List.set_cons_zero, List.set_cons_succ]
    rfl
  case he =>
    refine Ord.each_cons (fun D xs w2 hD hC hP hR hA K hK => ?_) ?_
    · -- 0
      go_simp
      exact hK _ _ ⟨_, rfl, Went.refl _, hR, rfl⟩
    refine Ord.each_cons (fun D xs w2 hD hC hP hR hA K hK => ?_) ?_
    · -- 1
      simp only [List.filter_cons, List.filter_nil, Region.binds, if_true, Ord.ahead, OrdF, and_true] at hA
      simp only [hA] at hK
      have c0 := hR.cell D2.out
      go_simp
      exact hK _ _ ⟨_, rfl, Went.refl _, hR, rfl⟩
    refine Ord.each_cons (fun D xs w2 hD hC hP hR hA K hK => ?_) ?_
    · -- 2
      go_simp
      exact hK _ _ ⟨_, rfl, Went.refl _, hR, rfl⟩
    refine Ord.each_cons (fun D xs w2 hD hC hP hR hA K hK => ?_) ?_
    · -- 3
      simp only [List.filter_cons, List.filter_nil, Region.binds, if_true, Ord.ahead, OrdF, and_true] at hA
      simp only [hA] at hK
      have c0 := hR.cell D4.out
      go_simp
      exact hK _ _ ⟨_, rfl, Went.refl _, hR, rfl⟩
    refine Ord.each_cons (fun D xs w2 hD hC hP hR hA K hK => ?_) ?_
    · -- 4
      simp only [List.filter_cons, List.filter_nil, Region.binds, if_true, Ord.ahead, OrdF, and_true] at hA
      obtain ⟨q0, q1⟩ := hA
      simp only [q0, q1] at hK
      go_simp
      refine (H1.out _).mono ?_
      rintro e w' ⟨rfl, rfl⟩
      exact hK _ _ ⟨_, rfl, Went.refl _, hR, rfl⟩
    refine Ord.each_cons (fun D xs w2 hD hC hP hR hA K hK => ?_) ?_
    · -- 5
      go_simp
      exact hK _ _ ⟨_, rfl, Went.refl _, hR, rfl⟩
    refine Ord.each_cons (fun D xs w2 hD hC hP hR hA K hK => ?_) ?_
    · -- 6
      simp only [List.filter_cons, List.filter_nil, Region.binds, if_true, Ord.ahead, OrdF, and_true] at hA
      simp only [hA] at hK
      have c0 := hR.cell D1.out
      go_simp
      exact hK _ _ ⟨_, rfl, Went.refl _, hR, rfl⟩
    refine Ord.each_cons (fun D xs w2 hD hC hP hR hA K hK => ?_) ?_
    · -- 7
      go_simp
      exact hK _ _ ⟨_, rfl, Went.refl _, hR, rfl⟩
    refine Ord.each_cons (fun D xs w2 hD hC hP hR hA K hK => ?_) ?_
    · -- 8
      simp only [List.filter_cons, List.filter_nil, Region.binds, if_true, Ord.ahead, OrdF, and_true] at hA
      simp only [hA] at hK
      have c0 := hR.cell D3.out
      go_simp
      exact hK _ _ ⟨_, rfl, Went.refl _, hR, rfl⟩
    refine Ord.each_cons (fun D xs w2 hD hC hP hR hA K hK => ?_) ?_
    · -- 9
      simp only [List.filter_cons, List.filter_nil, Region.binds, if_true, Ord.ahead, OrdF, and_true] at hA
      obtain ⟨q0, q1, -⟩ := hA
      simp only [q0, q1] at hK
      go_simp
      refine (H2.out _).mono ?_
      rintro e w' ⟨rfl, rfl⟩
      exact hK _ _ ⟨_, rfl, Went.refl _, hR, rfl⟩
    refine Ord.each_cons (fun D xs w2 hD hC hP hR hA K hK => ?_) ?_
    · -- 10
      simp only [List.filter_cons, List.filter_nil, Region.binds, if_true, Ord.ahead, OrdF, and_true] at hA
      obtain ⟨q0, q1⟩ := hA
      simp only [q0, q1] at hK
      go_simp
      exact hK _ _ ⟨_, rfl, (Went.refl _).alloc _, hR.alloc _, _, rfl, by simp, by simp⟩
    refine Ord.each_cons (fun D xs w2 hD hC hP hR hA K hK => ?_) ?_
    · -- 11
      simp only [List.filter_cons, List.filter_nil, Region.binds, if_true, Ord.ahead, OrdF, and_true] at hA
      obtain ⟨⟨b, q0, e0, e1⟩, -⟩ := hA
      simp only [q0] at hK
      have c0 := HOR.out b w2 e0 e1
      go_simp
      refine c0.mono ?_
      rintro e w' ⟨rfl, rfl⟩
      exact hK _ _ ⟨_, rfl, Went.refl _, hR, rfl⟩
    refine Ord.each_cons (fun D xs w2 hD hC hP hR hA K hK => ?_) ?_
    · -- 12
      simp only [List.filter_cons, List.filter_nil, Region.binds, if_true, Ord.ahead, OrdF, and_true] at hA
      have q0 := hA.1
      clear hA
      simp only [q0] at hK
      go_simp
      exact hK _ _ ⟨_, rfl, Went.refl _, hR, rfl⟩
    exact Ord.each_nil
  case hend =>
    intro D xs w2 hR hF
    have h12 := (hF 12 (by decide)).2
    simp only [OrdF] at h12
    rw [h12]
    clear h12 hF
    have HR := Lib.hid hR
    clear hR
    go_wp2_with fail
    go_ret
    exact ⟨rfl, HG.out.trans HR.out⟩
end Go.Proofs.Ytljichhmfbefaaa
