/- Parts of a proof. Conditions: as each row says. -/
import Derived.Test.YtbpodmallknhfaaGreatAr05
import Derived.Test.YtbpodmallknhfaaGreatAr12
import Derived.Test.YtbpodmallknhfaaGreatAr14
import Derived.Test.YtbpodmallknhfaaGreatAr04
import Derived.Lib.AppendZerosOnto
import Derived.Lib.SlBytesConst
import Derived.ArgAppend
namespace Go.Proofs.YtbpodmallknhfaaGreat
open Go.RowKit Go.Shelf
theorem lt_cell {w : World} {b o : Nat} {v : Value} (h : w.cell? ⟨b, o, none⟩ = some v) : b < w.heap.size := by
  rcases Nat.lt_or_ge b w.heap.size with h1 | h1
  · exact h1
  · unfold World.cell? at h
    rw [Array.getElem?_eq_none h1] at h
    simp at h
theorem chunk_any (v : Value) (K : Nat) (w : World) (p : Option Addr) (n cap : Nat) (hv : v = .slice p n cap) (hK : 1 ≤ K) :
    Calls Tryz.prog 102 #[v, .int .i64 (K : Int)] w fun e w' => e = .returned (.func (.func 142) #[] #[.pointer (some ⟨w.heap.size, 0, none⟩), .pointer (some ⟨w.heap.size + 1, 0, none⟩)]) ∧ w' = (w.alloc (.cells #[v] 57)).alloc (.cells #[.int .i64 (K : Int)] 3) := by
  subst hv
  have hk : ¬ (K : Int) < 1 := by omega
  go_enter Tryz.func102, Tryz.ntmps102
  go_wp2
  go_ret
  exact ⟨rfl, rfl⟩
attribute [local go_sem] Oper.semAt_some
theorem wpListIn_append_Own {F : Fence} {nF : Nat} {w : World} {ops : Array Oper} {rest : List Oper} {o : Oper} {a : Act} {Q : Exit → Act → World → Prop} (hgd : o.guard = none) (s x : Operand)
    (ho : o.op = .call { callee := .builtin .append, args := #[s, x], argTypes := #[57, 57] })
    (base : Nat) (v : Value) (l1 : List Nat) (hs : a.eval s = v) (hown : Own base w v l1)
    (xv : Value) (l2 : List Nat) (hx : a.eval x = xv) (hB : Bts w xv l2) (h0 : 0 < l2.length) (hlen : l1.length + l2.length ≤ 140737488355328) (hbase : base ≤ w.heap.size)
    (h : ∀ v' w', Own base w' v' (l1 ++ l2) → Below base w w' → w.grownBy w' v.ownBlock → wpListIn F nF Tryz.prog ops Q rest (a.put o.dst v') w') : wpListIn F nF Tryz.prog ops Q (o :: rest) a w := by
  obtain ⟨i0, hi, hz0, hz1, hz2⟩ := info_parts info5
  have hsm : ∀ x ∈ l1 ++ l2, x < 256 := by
    intro y hy
    rcases List.mem_append.1 hy with hy | hy
    · exact hown.small y hy
    · exact hB.small y hy
  have hb : bytesV l1 ++ bytesV l2 = bytesV (l1 ++ l2) := by simp [bytesV]
  obtain ⟨p, cap, rfl, _, hn, hp⟩ := hB.form
  obtain ⟨b, off, rfl, hc⟩ := hp h0
  refine wpListIn_append_own w hgd s x 57 ho base 5 i0 (.int .u8 0) 1 1 Tryz.underlying57 hi hz0 hz1 hz2 rfl (by decide) v l1.length (bytesV l1) hs hown.own ⟨b, off, none⟩ l2.length cap (bytesV l2) hx (by simp [bytesV]) ?_ ?_ (by unfold maxLen; omega) (by omega) hbase ?_
  · intro j u hj
    have hjl : j < l2.length := by
      rcases Nat.lt_or_ge j l2.length with h1 | h1
      · exact h1
      · rw [List.getElem?_eq_none (by simpa [bytesV] using h1)] at hj; simp at hj
    have hadd : (⟨b, off, none⟩ : Addr).add j = ⟨b, off + j, none⟩ := by unfold Addr.add; split <;> simp_all
    rw [hadd, hc j hjl, ← hj]
    simp [bytesV, List.getElem?_eq_getElem hjl]
  · intro u hu
    simp only [bytesV, List.mem_map] at hu
    obtain ⟨y, _, rfl⟩ := hu
    rfl
  · intro v' w' hown' hgrow _
    rw [hb, ← List.length_append] at hown'
    refine h v' w' ⟨hown', hsm, by simp; omega⟩ ((Below.refl _ _).grown hgrow hbase ?_) hgrow
    intro k hk
    rcases hown.own.2 with ⟨rfl, _⟩ | ⟨g, c, cur, rfl, hg, _⟩
    · simp [Value.ownBlock] at hk
    · simp only [Value.ownBlock, Option.some.injEq] at hk
      omega
theorem wpListIn_append_run {F : Fence} {nF : Nat} {w : World} {ops : Array Oper} {rest : List Oper} {o : Oper} {a : Act} {Q : Exit → Act → World → Prop} (hgd : o.guard = none) (s x : Operand) (t tn : TypeId)
    (ho : o.op = .call { callee := .builtin .append, args := #[s, x], argTypes := #[t, tn] }) (vs vx : Value) (hs : a.eval s = vs) (hx : a.eval x = vx) (v' : Value) (w' : World)
    (hr : (Builtin.append_ #[t, tn] o.type #[vs, vx]).run Tryz.prog w = .ok v' w') (h : wpListIn F nF Tryz.prog ops Q rest (a.put o.dst v') w') : wpListIn F nF Tryz.prog ops Q (o :: rest) a w := by
  refine wpListIn_plain hgd fun K hK => ?_
  unfold Oper.wpIn
  refine ⟨by simp [Oper.about, ho, resolve, Target.leads, Sem.run_pure], ?_⟩
  rw [Oper.semAt_plain F _ _ (by rw [ho]; intro c hc'; cases hc')]
  simp [execOp, ho, resolve, invoke, builtin, hs, hx, hr, Result.andThen]
  exact hK _ _ h
theorem own_nota {base : Nat} {w : World} {v : Value} {l : List Nat} (h : Own base w v l) {g : Nat} (hv : v.ownBlock = some g) (hg : g < base) : False := by
  rcases h.own.2 with ⟨rfl, _⟩ | ⟨k, c, cur, rfl, hk, _⟩
  · simp [Value.ownBlock] at hv
  · simp only [Value.ownBlock, Option.some.injEq] at hv
    omega
theorem own_some2 {base : Nat} {w : World} {v : Value} {l : List Nat} (h : Own base w v l) (h0 : 0 < l.length) : ∃ g c, v = .slice (some ⟨g, 0, none⟩) l.length c ∧ base ≤ g ∧ g < w.heap.size := by
  obtain ⟨g, c, h1, h2, h3, -⟩ := own_some h h0
  exact ⟨g, c, h1, h2, h3⟩
theorem keeps_own {base : Nat} {w w' : World} {v : Value} {l : List Nat} (h : Own base w v l) (hg : w.grownBy w' v.ownBlock) : KeepsOthers w w' := KeepsOthers.of_grownBy hg fun j o hj ho => by
  rcases h.own.2 with ⟨rfl, _⟩ | ⟨g, c, cur, rfl, _, hh, _⟩
  · simp [Value.ownBlock] at hj
  · simp only [Value.ownBlock, Option.some.injEq] at hj
    subst hj
    rw [hh] at ho
    cases ho
    rfl
theorem box_own (B : Nat) (t : TypeId) (v : Value) : Go.Own (fun (_ : List Nat) W => Boxed W B t v) := by
  intro s X Y row hs hg hrow
  refine hs.kept hg fun e => ?_
  obtain ⟨o, ho, hc⟩ := hrow B e.symm
  rw [show X.heap[B]? = _ from hs] at ho
  cases ho
  cases hc
theorem chunk_stops (n : Nat) (hn : 1 ≤ n) (Bs Bn b off len cap K m : Nat) (hK : 1 ≤ K ∧ K ≤ 1000) (hlen : len ≤ 100000) (hcap : len ≤ cap) (hm : len ≤ K * m ∧ K * m < len + K) (w : World) (h1 : Bs < w.heap.size) (h2 : Bn < w.heap.size)
    (hBs : w.cell? ⟨Bs, 0, none⟩ = some (.slice (some ⟨b, off, none⟩) len cap)) (hBn : w.cell? ⟨Bn, 0, none⟩ = some (.int .i64 (K : Int))) :
    SeqStopsK Fence.wide n Tryz.prog 142 #[.pointer (some ⟨Bs, 0, none⟩), .pointer (some ⟨Bn, 0, none⟩)] (fun x : Nat => #[ckV b off len K (ckN m x)]) (Kp2 Bs Bn) (fun ys => ys = List.range m) (fun pre => ∃ k, k ≤ m ∧ pre = List.range k) m w := fun l J Jx W hW hJ _ hY h0 => by
  have e1 := (hW.cell (p := ⟨Bs, 0, none⟩) h1).trans hBs
  have e2 := (hW.cell (p := ⟨Bn, 0, none⟩) h2).trans hBn
  refine (chunk1_in Fence.wide n trivial rfl hn l Bs Bn b off len cap K m hK hlen hcap hm J Jx hY W e1 e2 h0 fun pre w' hj => hJ pre w' w'.drew none hj (grownBy_drew _ _) fun r e => by cases e).mono ?_
  rintro e W' ⟨he, ⟨ys, rfl, hj⟩ | ⟨pre, hp, hj⟩⟩
  · exact ⟨he, .inl ⟨_, rfl, hj⟩⟩
  · exact ⟨he, .inr ⟨_, hp, hj⟩⟩
theorem Bts.part {w : World} {g off cap len : Nat} {l : List Nat} (h : Bts w (.slice (some ⟨g, off, none⟩) len cap) l) (hll : l.length = len) (K x : Nat) (hx : K * x ≤ l.length) : Bts w (ckV g off len K x) (Rg.part K l x) := by
  subst hll
  have h1 := h.drop (K * x) hx
  have hl : (l.drop (K * x)).length = l.length - K * x := List.length_drop ..
  rw [← hl] at h1
  have h2 := h1.take (ckL l.length K x) (by unfold ckL; rw [hl]; omega)
  have e : (l.drop (K * x)).take (ckL l.length K x) = Rg.part K l x := by
    unfold Rg.part ckL
    rw [← hl]
    rcases Nat.le_total K (l.drop (K * x)).length with h3 | h3
    · rw [Nat.min_eq_left h3]
    · rw [Nat.min_eq_right h3, List.take_of_length_le (Nat.le_refl _), List.take_of_length_le h3]
  rw [e] at h2
  have hl2 : (Rg.part K l x).length = ckL l.length K x := by
    unfold Rg.part ckL
    rw [List.length_take, hl]
  obtain ⟨⟨p, c, hv, hn, hnn, hc⟩, h4, h5⟩ := h2
  rw [hl2] at hv
  simp only [Value.slice.injEq] at hv
  obtain ⟨rfl, -, rfl⟩ := hv
  refine ⟨⟨_, ckL l.length K x, by unfold ckV; rw [hl2], ⟨by rw [hl2]; exact Nat.le_refl _, ?_⟩, (fun e => by cases e), hc⟩, h4, h5⟩
  rw [← hl2]; omega
set_option maxRecDepth 100000 in
set_option maxHeartbeats 2000000 in
theorem laidOut_in (g off cap : Nat) (pt : Option Addr) (ct : Nat) (b t : List Nat) (w : World) (hb : Bts w (.slice (some ⟨g, off, none⟩) 512 cap) b) (hbl : b.length = 512) (ht : Bts w (.slice pt 12 ct) t) (htl : t.length = 12) :
    CallsIn Fence.wide 4 Tryz.prog 148 #[.slice (some ⟨g, off, none⟩) 512 cap, .slice pt 12 ct] w fun e w' => ∃ u, e = .returned u ∧ Own w.heap.size w' u (Rg.laid b t) ∧ Below w.heap.size w w' := by
  refine callsIn_of_wp_marks Tryz.func148 rfl trivial ?_ rfl
  simp only [Tryz.ntmps148, List.size_toArray, List.length_cons, List.length_nil, Nat.reduceAdd, Nat.reduceSub, Array.replicate_succ, Array.replicate_zero, List.push_toArray, List.append_toArray, List.nil_append, List.cons_append]
  gi_wp2_with (refine ⟨trivial, ?_⟩; gi_at_call 102; refine (callsIn_wide.2 (chunk_any _ 52 _ _ _ _ rfl (by decide))).mono ?_; rintro e w' ⟨rfl, rfl⟩)
  obtain ⟨A, hA⟩ : ∃ A, A = w.heap.size := ⟨_, rfl⟩
  obtain ⟨W0, hW0⟩ : ∃ W0, W0 = ((((w.alloc (.cells #[.slice pt 12 ct] 57)).alloc (.cells #[.slice none 0 0] 57)).alloc (.cells #[.slice (some ⟨g, off, none⟩) 512 cap] 57)).alloc (.cells #[.int .i64 52] 3)) := ⟨_, rfl⟩
  rw [← hW0, ← hA]
  have hsz : W0.heap.size = A + 4 := by rw [hW0, hA]; simp
  have bT : Boxed W0 A 57 (.slice pt 12 ct) := by rw [hW0, hA]; exact (((Boxed.new w _ _).alloc _).alloc _).alloc _
  have bS : Boxed W0 (A + 1) 57 (.slice none 0 0) := by
    have h := ((Boxed.new (w.alloc (.cells #[.slice pt 12 ct] 57)) 57 (.slice none 0 0)).alloc (.cells #[.slice (some ⟨g, off, none⟩) 512 cap] 57)).alloc (.cells #[.int .i64 52] 3)
    rw [World.size_alloc] at h
    rw [hW0, hA]; exact h
  have bC : Boxed W0 (A + 2) 57 (.slice (some ⟨g, off, none⟩) 512 cap) := by
    have h := (Boxed.new ((w.alloc (.cells #[.slice pt 12 ct] 57)).alloc (.cells #[.slice none 0 0] 57)) 57 (.slice (some ⟨g, off, none⟩) 512 cap)).alloc (.cells #[.int .i64 52] 3)
    rw [World.size_alloc, World.size_alloc] at h
    rw [hW0, hA]; exact h
  have bN : Boxed W0 (A + 3) 3 (.int .i64 52) := by
    have h := Boxed.new (((w.alloc (.cells #[.slice pt 12 ct] 57)).alloc (.cells #[.slice none 0 0] 57)).alloc (.cells #[.slice (some ⟨g, off, none⟩) 512 cap] 57)) 3 (.int .i64 52)
    rw [World.size_alloc, World.size_alloc, World.size_alloc] at h
    rw [hW0, hA]; exact h
  have hB0 : Below A w W0 := by
    rw [hW0, hA]
    exact ((((Below.refl _ w).alloc (Nat.le_refl _) _).alloc (by simp) _).alloc (by simp; omega) _).alloc (by simp; omega) _
  have hcapl : 512 ≤ cap ∧ cap ≤ 9223372036854775807 := by
    obtain ⟨p, c, hv, h1, -⟩ := hb.form
    simp only [Value.slice.injEq] at hv
    rw [hv.2.2, ← hbl]; exact h1
  have hgA : g < A := by
    obtain ⟨p, c, hv, -, -, h2⟩ := hb.form
    obtain ⟨b', o', e, hc⟩ := h2 (by omega)
    have e1 := hc 0 (by omega)
    rw [hA]
    simp only [Value.slice.injEq] at hv
    rw [e] at hv
    obtain ⟨h5, -⟩ := hv
    simp only [Option.some.injEq, Addr.mk.injEq] at h5
    rw [h5.1]
    exact lt_cell e1
  have HA := Lib.hid hA
  have HSZ := Lib.hid hsz
  have HB0 := Lib.hid hB0
  have HC0 := Lib.hid hcapl
  have HBB := Lib.hid hb
  have HBT := Lib.hid ht
  have HBL := Lib.hid hbl
  have HTL := Lib.hid htl
  have HSZA : Hid (W0.heap.size = A + 4) := hsz
  clear hW0 hcapl hbl htl hb ht hA hsz
  refine wpIn_rangeFunc_ownG (w := W0) (w0 := W0) rfl (by decide) (gf := 142) (lb := #[.pointer (some ⟨A + 2, 0, none⟩), .pointer (some ⟨A + 3, 0, none⟩)]) rfl trivial (enters_of Tryz.func142 (by kernel_rfl) rfl)
    (chunk_stops 3 (by decide) (A + 2) (A + 3) g off 512 cap 52 10 (by decide) (by decide) HC0.out.1 (by decide) W0 (by have := HSZA.out; omega) (by have := HSZA.out; omega) bC.cell bN.cell) (fun h k => h.trans k) (fun W l o o' hl _ _ _ => Kp2.put o' hl (by have := HSZA.out; omega) (by have := HSZA.out; omega)) (Below.refl _ _) (fun _ => rfl)
    (fun pre W => (∃ v, Boxed W (A + 1) 57 v ∧ W.ownsRow A 5 1 v (pre.flatMap fun i => t ++ Rg.part 52 b (ckN 10 i)).length (bytesV (pre.flatMap fun i => t ++ Rg.part 52 b (ckN 10 i))) ∧ (pre.length ≤ 10)) ∧ Boxed W A 57 (.slice pt 12 ct) ∧ Boxed W (A + 2) 57 (.slice (some ⟨g, off, none⟩) 512 cap) ∧ Boxed W (A + 3) 3 (.int .i64 52) ∧ Below A w W)
    (fun _ _ _ => False)
    ?hI (fun _ _ _ _ _ hs _ _ => hs) ?h0
    (fun x => { tmps := #[.slice (some ⟨g, off, none⟩) 512 cap, .slice pt 12 ct, undef, .pointer (some ⟨A, 0, none⟩), .slice none 0 0, .pointer (some ⟨A + 1, 0, none⟩), ckV g off 512 52 (ckN 10 x), .slice (some ⟨g, off, none⟩) 512 cap, .func (.func 142) #[] #[.pointer (some ⟨A + 2, 0, none⟩), .pointer (some ⟨A + 3, 0, none⟩)], ckV g off 512 52 (ckN 10 x), undef, undef, undef, undef, undef, undef, undef, undef, undef, undef], defers := [] }) ?assign ?body ?done ?stop
  case hI => exact OwnFrom.and (Go.Own.from (holdsRow_own A (A + 1) 57 5 1 (fun pre : List Nat => (pre.flatMap fun i => t ++ Rg.part 52 b (ckN 10 i)).length) (fun pre => bytesV (pre.flatMap fun i => t ++ Rg.part 52 b (ckN 10 i))) (fun pre _ => pre.length ≤ 10)) _) (OwnFrom.and (Go.Own.from (box_own A 57 (Value.slice pt 12 ct)) _) (OwnFrom.and (Go.Own.from (box_own (A + 2) 57 (.slice (some ⟨g, off, none⟩) 512 cap)) _) (OwnFrom.and (Go.Own.from (box_own (A + 3) 3 (.int .i64 52)) _) (ownFrom_below (by have := HA.out; omega) (by have := HSZA.out; omega)))))
  case h0 => exact ⟨⟨_, bS, World.ownsRow_nil _ _ _ _, Nat.zero_le _⟩, bT, bC, bN, hB0⟩
  case assign =>
    intro l x W K hK
    gi_wp2
    exact hK
  case body =>
    rintro l pre x W ⟨⟨v, hv, hrow, hpl⟩, hT, hC, hN, hB⟩ hlt
    have hcS := hv.cell
    have hcT := hT.cell
    have hfS := hv.frozen
    have hAW : A ≤ W.heap.size := by have := hB.size; have := HA.out; omega
    obtain ⟨L1, hL1⟩ : ∃ L1, L1 = pre.flatMap fun i => t ++ Rg.part 52 b (ckN 10 i) := ⟨_, rfl⟩
    rw [← hL1] at hrow
    have hsmall : ∀ z ∈ L1, z < 256 := fun z hz => by
      rw [hL1] at hz
      obtain ⟨i, -, hi⟩ := List.mem_flatMap.1 hz
      rcases List.mem_append.1 hi with h1 | h1
      · exact HBT.out.small z h1
      · exact Rg.part_lt HBB.out.small _ z h1
    have hL1l : L1.length ≤ 640 := by
      rw [hL1]
      have : ∀ q : List Nat, (q.flatMap fun i => t ++ Rg.part 52 b (ckN 10 i)).length ≤ 64 * q.length := fun q => by
        induction q with
        | nil => exact Nat.le_refl _
        | cons y q ih =>
          rw [List.flatMap_cons, List.length_append, List.length_append, HTL.out, List.length_cons]
          have := Rg.part_le 52 b (ckN 10 y)
          omega
      have := this pre
      omega
    have hown : Own A W v L1 := ⟨hrow, hsmall, by omega⟩
    have hBW : Below w.heap.size w W := by rw [← HA.out]; exact hB
    have hbT := HBT.out.below hBW
    have hbP := (HBB.out.below hBW).part HBL.out 52 (ckN 10 x) (by have := ckN_lt (m := 10) (by decide) x; rw [HBL.out]; omega)
    obtain ⟨P, hP⟩ : ∃ P, P = ckV g off 512 52 (ckN 10 x) := ⟨_, rfl⟩
    rw [← hP] at hbP ⊢
    have hPb : P.ownBlock = some g := by rw [hP]; rfl
    obtain ⟨Y, hY⟩ : ∃ Y, Y = Rg.part 52 b (ckN 10 x) := ⟨_, rfl⟩
    rw [← hY] at hbP
    have hYl : 0 < Y.length ∧ Y.length ≤ 52 := by
      have := ckN_lt (m := 10) (by decide) x
      rw [hY]
      refine ⟨?_, Rg.part_le _ _ _⟩
      unfold Rg.part
      rw [List.length_take, List.length_drop, HBL.out]; omega
    have HL1 := Lib.hid hL1
    have HY := Lib.hid hY
    clear hP hL1 hY hrow hsmall
    have htl0 : 0 < t.length := by rw [HTL.out]; decide
    have hlen1 : L1.length + t.length ≤ 140737488355328 := by rw [HTL.out]; omega
    have hlen12 : (L1 ++ t).length + Y.length ≤ 140737488355328 := by rw [List.length_append, HTL.out]; omega
    have hlen0 : 0 < ((L1 ++ t) ++ Y).length := by rw [List.length_append]; omega
    gi_wp2_with (first
      | (gi_at_builtin; refine wpListIn_append_Own rfl _ _ rfl A v L1 rfl hown _ t rfl hbT htl0 hlen1 hAW ?_; intro v1 w1 hown1 hb1 hg1; have hAW1 : A ≤ w1.heap.size := Nat.le_trans hAW hg1.size; have hbP1 := hbP.grown hg1 (fun _ e => own_nota hown (by rw [← e, hPb]) hgA); have hKp1 := keeps_own hown hg1; have hv1 := hv.kept hg1 (hv.not_row (by decide) hown.own); have hT1 := hT.kept hg1 (hT.not_row (by decide) hown.own); have hC1 := hC.kept hg1 (hC.not_row (by decide) hown.own); have hN1 := hN.kept hg1 (hN.not_row (by decide) hown.own); clear hown hbP)
      | (gi_at_builtin; refine wpListIn_append_Own rfl _ _ rfl A v1 (L1 ++ t) rfl hown1 _ Y rfl hbP1 hYl.1 hlen12 hAW1 ?_; intro v2 w2 hown2 hb2 hg2; obtain ⟨g2, c2, rfl, hg2l, hg2r⟩ := own_some2 hown2 hlen0; have hv2 := hv1.kept hg2 (hv1.not_row (by decide) hown1.own); have hT2 := hT1.kept hg2 (hT1.not_row (by decide) hown1.own); have hC2 := hC1.kept hg2 (hC1.not_row (by decide) hown1.own); have hN2 := hN1.kept hg2 (hN1.not_row (by decide) hown1.own); have hKp2 := keeps_own hown1 hg2; have hcS2 := hv2.cell; have hfS2 := hv2.frozen))
    have hll : (L1 ++ t ++ Y).length = L1.length + (t.length + Y.length) := by rw [List.length_append, List.length_append]; omega
    rw [hll] at hown2
    obtain ⟨V, hV⟩ : ∃ V, V = Value.slice (some ⟨g2, 0, none⟩) (L1.length + (t.length + Y.length)) c2 := ⟨_, rfl⟩
    rw [← hV] at hown2 ⊢
    have hg3 := grownBy_setCell' w2 (A + 1) V
    have hv3 : Boxed (w2.setCell ⟨A + 1, 0, none⟩ V) (A + 1) 57 V := hv2.set V
    have hT3 := hT2.kept hg3 (by simp)
    have hC3 := hC2.kept hg3 (by simp)
    have hN3 := hN2.kept hg3 (by simp)
    have hown3 := hown2.own.kept hg3 (.inr (hv2.not_row (by decide) hown2.own).symm)
    have hEq : (pre ++ [x]).flatMap (fun i => t ++ Rg.part 52 b (ckN 10 i)) = L1 ++ t ++ Y := by
      rw [List.flatMap_append, ← HL1.out, List.flatMap_cons, List.flatMap_nil, List.append_nil, ← HY.out, List.append_assoc]
    refine ⟨((hKp1.trans hKp2).trans (KeepsOthers.setCell _ _ _)).from _, ⟨hC3.cell.trans hC.cell.symm, hN3.cell.trans hN.cell.symm⟩, ⟨V, hv3, ?_, ?_⟩, hT3, hC3, hN3, ?_⟩
    · rw [hEq]
      exact hown3
    · rw [List.length_append]; exact hlt
    · exact ((hB.trans hb1).trans hb2).setCell (p := ⟨A + 1, 0, none⟩) (Nat.le_succ A) V
  case done =>
    rintro D ys W hD rfl ⟨⟨v, hv, hrow, -⟩, hT, hC, hN, hB⟩ hK
    have hc := hv.cell
    obtain ⟨L1, hL1⟩ : ∃ L1, L1 = (List.range 10).flatMap fun i => t ++ Rg.part 52 b (ckN 10 i) := ⟨_, rfl⟩
    rw [← hL1] at hrow
    have hL1r : L1 = Rg.row t b 10 := by
      rw [hL1]
      unfold Rg.row
      have : ∀ q : List Nat, (∀ i ∈ q, i < 10) → (q.flatMap fun i => t ++ Rg.part 52 b (ckN 10 i)) = q.flatMap fun i => t ++ Rg.part 52 b i := fun q => by
        induction q with
        | nil => intro _; rfl
        | cons y q ih =>
          intro hq
          rw [List.flatMap_cons, List.flatMap_cons, ckN_of (hq y (List.mem_cons_self ..)), ih fun i hi => hq i (List.mem_cons_of_mem _ hi)]
      exact this _ fun i hi => List.mem_range.1 hi
    have hLl : L1.length = 632 := by rw [hL1r]; exact Rg.row_full HTL.out HBL.out
    have hown : Own A W v L1 := ⟨hrow, by rw [hL1r]; exact Rg.row_lt HBT.out.small HBB.out.small 10, by omega⟩
    obtain ⟨g1, c1, rfl, -, -⟩ := own_some2 hown (by omega)
    have hAW : A ≤ W.heap.size := by have := hB.size; have := HA.out; omega
    obtain ⟨V, W2, hrun, hown2, hb2, hg2⟩ := run_append_zerosG hown (by omega) 8 (by omega) hAW 57
    rw [hLl] at hc hrun
    have HOW := Lib.hid hown2
    have HL1R := Lib.hid hL1r
    have hb3 : Below A w W2 := hB.trans hb2
    have HB3 := Lib.hid hb3
    obtain ⟨gV, cV, rfl, -, -⟩ := own_some2 hown2 (by simp)
    have hKD := Lib.hid ((keeps_own hown hg2).same _ _ hK rfl)
    have hgDR := Lib.hid hD
    clear hb2 hg2 hb3 hown2 hown hrow hLl hL1r hL1 hK hD
    gi_wp2_with (gi_at_builtin; refine wpListIn_append_run rfl _ _ _ _ rfl _ _ rfl rfl _ _ hrun ?_)
    refine ⟨by simp, .inl ⟨_, _, rfl, run_takeDeferred hKD.out, ?_⟩⟩
    have hll2 : (L1 ++ List.replicate 8 0).length = L1.length + 8 := by simp
    refine ⟨_, results_tmp rfl _ _ _, ?_⟩
    have h9 := HOW.out
    rw [hll2] at h9
    have hDw : w.heap.size ≤ D := by have := HSZA.out; have := HA.out; have := hgDR.out; omega
    have e9 : L1 ++ List.replicate 8 0 = Rg.laid b t := by rw [HL1R.out]; rfl
    have hb9 : Below w.heap.size w W2 := by rw [← HA.out]; exact HB3.out
    refine ⟨_, rfl, ?_, hb9.trans (belowK_b (w := w) (Nat.le_refl _) W2 D _ _ hDw hKD.out rfl rfl)⟩
    show Own w.heap.size _ (.slice (some ⟨gV, 0, none⟩) (L1.length + 8) cV) (Rg.laid b t)
    rw [← HA.out, ← e9]
    exact ⟨ownsRow_putObj h9.own _ hKD.out rfl, h9.small, h9.len⟩
  case stop =>
    rintro D c pre W _ _ h _
    exact h.elim
theorem laidOut_any (g off cap : Nat) (pt : Option Addr) (ct : Nat) (b t : List Nat) (w : World) (hb : Bts w (.slice (some ⟨g, off, none⟩) 512 cap) b) (hbl : b.length = 512) (ht : Bts w (.slice pt 12 ct) t) (htl : t.length = 12) :
    Calls Tryz.prog 148 #[.slice (some ⟨g, off, none⟩) 512 cap, .slice pt 12 ct] w fun e w' => ∃ u, e = .returned u ∧ Own w.heap.size w' u (Rg.laid b t) ∧ Below w.heap.size w w' := callsIn_wide.1 (laidOut_in g off cap pt ct b t w hb hbl ht htl)
end Go.Proofs.YtbpodmallknhfaaGreat
namespace Go.Proofs.YtbpodmallknhfaaGreat
open Go.RowKit Go.Shelf
attribute [local go_sem] Oper.semAt_some
theorem Rg.all_le : ∀ (n : Nat) (l : List Nat), (∀ j, j < n → j ∈ l) → n ≤ l.length
  | 0, _, _ => Nat.zero_le _
  | n + 1, l, h => by
    have hm := h n (Nat.lt_succ_self n)
    have := Rg.all_le n (l.erase n) fun j hj => (List.mem_erase_of_ne (by omega)).2 (h j (by omega))
    rw [List.length_erase_of_mem hm] at this
    have := List.length_pos_of_mem hm
    omega
def Rg.b9 (s : List Nat) (i : Nat) : Nat := s.getD (64 * i + 9) 0
theorem Rg.had_b9 (s : List Nat) (m : Nat) : Rg.had s m = (List.range m).map (Rg.b9 s) := by
  unfold Rg.had
  refine List.map_congr_left fun i _ => ?_
  rw [Rg.part_getD (by decide)]
  rfl
set_option maxHeartbeats 1600000 in
set_option maxRecDepth 20000 in
theorem index8_any (p : Option Addr) (cap : Nat) (l : List Nat) (t : Nat) (ht : t < 256) (w : World) (h : Bts w (.slice p l.length cap) l) :
    Calls Tryz.prog 185 #[.slice p l.length cap, .int .u8 (t : Int)] w fun e w' => ∃ r : Int, (0 ≤ r ↔ t ∈ l) ∧ e = .returned (.int .i64 r) ∧ w = w' := by
  have hlen := h.len
  obtain ⟨p', cap', h1, -, -, h4⟩ := h.form
  simp only [Value.slice.injEq, true_and] at h1
  obtain ⟨rfl, rfl⟩ := h1
  have HF := Lib.hid h4
  clear h h4
  go_enter Tryz.func185, Tryz.ntmps185
  go_wp2_with fail
  go_loopw [8] (fun i wr => ∃ k : Nat, k ≤ l.length ∧ i = .int .i64 k ∧ (∀ j, j < k → l.getD j 0 ≠ t) ∧ w = wr) (fun i _ => l.length - (intOf i).toNat)
  case atStart => exact ⟨0, Nat.zero_le _, rfl, fun j hj => absurd hj (Nat.not_lt_zero _), rfl⟩
  case round =>
    obtain ⟨k, hk, rfl, hn, rfl⟩ := hrel
    have HN := Lib.hid hn
    clear hn
    by_cases hlt : k < l.length
    · have HLT := Lib.hid hlt
      have hi : (k : Int) < (l.length : Int) := by omega
      obtain ⟨b, off, rfl, hc⟩ := HF.out (by omega)
      have hu := hc k hlt
      have hw5 := IntWalk.i64_in ((k : Int) + 1) (by omega)
      obtain ⟨y, hy⟩ : ∃ y, y = l.getD k 0 := ⟨_, rfl⟩
      rw [← hy] at hu
      have HY := Lib.hid hy
      clear hc hlt hy
      by_cases hty : t = y
      · subst hty
        have HM : Hid ((0 : Int) ≤ (k : Int) ↔ t ∈ l) := by
          refine ⟨fun _ => ?_, fun _ => by omega⟩
          rw [HY.out, List.getD_eq_getElem?_getD, List.getElem?_eq_getElem HLT.out, Option.getD_some]
          exact List.getElem_mem _
        go_wp2_with fail
        go_ret
        exact ⟨_, HM.out, rfl, rfl⟩
      · have hbe : ((t : Int) == (y : Int)) = false := by rw [beq_eq_false_iff_ne]; omega
        have HN2 : Hid (∀ j, j < k + 1 → l.getD j 0 ≠ t) := fun j hj => by
          by_cases e : j = k
          · rw [e, ← HY.out]; exact fun h => hty h.symm
          · exact HN.out j (by omega)
        have hty2 : ¬ (t : Int) = (y : Int) := by omega
        go_wp2_with fail
        go_roundw
        case rel => exact ⟨k + 1, by have := HLT.out; omega, by go_num, HN2.out, by first | rfl | trivial⟩
        case measure => have := HLT.out; simp [intOf]; omega
    · obtain rfl : k = l.length := by omega
      have HM : Hid ((0 : Int) ≤ -1 ↔ t ∈ l) := by
        refine ⟨fun h => absurd h (by decide), fun hm => ?_⟩
        obtain ⟨j, hj, e⟩ := List.getElem_of_mem hm
        have := HN.out j hj
        rw [List.getD_eq_getElem?_getD, List.getElem?_eq_getElem hj, Option.getD_some] at this
        exact absurd e this
      go_wp2_with fail
      go_ret
      exact ⟨_, HM.out, rfl, rfl⟩
theorem contains8_any (p : Option Addr) (cap : Nat) (l : List Nat) (t : Nat) (ht : t < 256) (w : World) (h : Bts w (.slice p l.length cap) l) :
    Calls Tryz.prog 177 #[.slice p l.length cap, .int .u8 (t : Int)] w fun e w' => e = .returned (.bool (decide (t ∈ l))) ∧ w = w' := by
  have hi := index8_any p cap l t ht w h
  have HI := Lib.hid hi
  clear hi h
  go_enter Tryz.func177, Tryz.ntmps177
  go_wp2_with fail
  refine HI.out.mono ?_
  rintro e w' ⟨r, hr, rfl, rfl⟩
  by_cases hm : t ∈ l
  · have h0 := hr.2 hm
    have h0' : ¬ r < 0 := by omega
    have HE := Lib.hid (decide_eq_true hm)
    have HE2 := Lib.hid (decide_eq_true h0)
    clear hr hm HI
    go_wp2_with fail
    go_ret
    refine ⟨?_, rfl⟩
    rw [HE.out]
    rfl
  · have h0 : r < 0 := by
      rcases Int.lt_or_le r 0 with h | h
      · exact h
      · exact absurd (hr.1 h) hm
    have h0' : ¬ 0 ≤ r := by omega
    have HE := Lib.hid (decide_eq_false hm)
    have HE2 := Lib.hid (decide_eq_false h0')
    clear hr hm HI
    go_wp2_with fail
    go_ret
    refine ⟨?_, rfl⟩
    show Ending.returned (.bool (decide (0 ≤ r))) = _
    rw [HE.out, HE2.out]
theorem run_append_Own {w : World} (ty : TypeId) (base : Nat) (v : Value) (l1 : List Nat) (hown : Own base w v l1) (xv : Value) (l2 : List Nat) (hB : Bts w xv l2) (h0 : 0 < l2.length) (hlen : l1.length + l2.length ≤ 140737488355328) (hbase : base ≤ w.heap.size) :
    ∃ v' w', (Builtin.append_ #[57, 57] ty #[v, xv]).run Tryz.prog w = .ok v' w' ∧ Own base w' v' (l1 ++ l2) ∧ Below base w w' ∧ w.grownBy w' v.ownBlock := by
  obtain ⟨i0, hi, hz0, hz1, hz2⟩ := info_parts info5
  have hsm : ∀ x ∈ l1 ++ l2, x < 256 := by
    intro y hy
    rcases List.mem_append.1 hy with hy | hy
    · exact hown.small y hy
    · exact hB.small y hy
  have hb : bytesV l1 ++ bytesV l2 = bytesV (l1 ++ l2) := by simp [bytesV]
  obtain ⟨p, cap, rfl, _, hn, hp⟩ := hB.form
  obtain ⟨b, off, rfl, hc⟩ := hp h0
  obtain ⟨v', w', hr, hown', hgrow, -⟩ := run_append_own (P := Tryz.prog) w base 57 ty 5 i0 (.int .u8 0) 1 1 Tryz.underlying57 hi hz0 hz1 hz2 rfl (by decide) v l1.length (bytesV l1) hown.own ⟨b, off, none⟩ l2.length cap (bytesV l2) (by simp [bytesV]) (by
    intro j u hj
    have hjl : j < l2.length := by
      rcases Nat.lt_or_ge j l2.length with h1 | h1
      · exact h1
      · rw [List.getElem?_eq_none (by simpa [bytesV] using h1)] at hj; simp at hj
    have hadd : (⟨b, off, none⟩ : Addr).add j = ⟨b, off + j, none⟩ := by unfold Addr.add; split <;> simp_all
    rw [hadd, hc j hjl, ← hj]
    simp [bytesV, List.getElem?_eq_getElem hjl]) (by
    intro u hu
    simp only [bytesV, List.mem_map] at hu
    obtain ⟨y, _, rfl⟩ := hu
    rfl) (by unfold maxLen; omega) (by omega) hbase
  rw [hb, ← List.length_append] at hown'
  refine ⟨v', w', hr, ⟨hown', hsm, by simp; omega⟩, (Below.refl _ _).grown hgrow hbase ?_, hgrow⟩
  intro k hk
  rcases hown.own.2 with ⟨rfl, _⟩ | ⟨g, c, cur, rfl, hg, _⟩
  · simp [Value.ownBlock] at hk
  · simp only [Value.ownBlock, Option.some.injEq] at hk
    omega
theorem wpIn_append_run {F : Fence} {nF : Nat} {w : World} {o : Oper} {a : Act} {K : Act → World → Prop} {Q : Exit → Act → World → Prop} (s x : Operand) (t tn : TypeId)
    (ho : o.op = .call { callee := .builtin .append, args := #[s, x], argTypes := #[t, tn] }) (vs vx : Value) (hs : a.eval s = vs) (hx : a.eval x = vx) (v' : Value) (w' : World)
    (hr : (Builtin.append_ #[t, tn] o.type #[vs, vx]).run Tryz.prog w = .ok v' w') (h : K (a.put o.dst v') w') : o.wpIn F nF Tryz.prog a w K Q := by
  unfold Oper.wpIn
  refine ⟨by simp [Oper.about, ho, resolve, Target.leads, Sem.run_pure], ?_⟩
  rw [Oper.semAt_plain F _ _ (by rw [ho]; intro c hc'; cases hc')]
  simp [execOp, ho, resolve, invoke, builtin, hs, hx, hr, Result.andThen]
  exact h
theorem own_lt {base : Nat} {w : World} {v : Value} {l : List Nat} (h : Own base w v l) {q : Nat} (hq : w.heap.size ≤ q) : v.ownBlock ≠ some q := by
  intro e
  rcases h.own.2 with ⟨rfl, _⟩ | ⟨k, c, cur, rfl, _, hh, _⟩
  · simp [Value.ownBlock] at e
  · simp only [Value.ownBlock, Option.some.injEq] at e
    have := lt_of_block hh
    omega
theorem Bts.at_ {w : World} {g off cap : Nat} {l : List Nat} {n : Nat} (h : Bts w (.slice (some ⟨g, off, none⟩) n cap) l) (hl : l.length = n) (i : Nat) (hi : i < n) : w.cell? ⟨g, off + i, none⟩ = some (.int .u8 (l.getD i 0 : Nat)) := by
  obtain ⟨p, c, hv, -, -, hc⟩ := h.form
  obtain ⟨b, o, e, hc⟩ := hc (by omega)
  simp only [Value.slice.injEq] at hv
  rw [e] at hv
  simp only [Option.some.injEq, Addr.mk.injEq] at hv
  obtain ⟨⟨rfl, rfl, -⟩, -⟩ := hv
  exact hc i (by omega)
theorem wrap8_in (x : Int) (h1 : 0 ≤ x) (h2 : x < 256) : IntKind.u8.wrap x = x := by
  have e : IntKind.u8.wrap x = x % 256 := by simp [IntKind.wrap, IntKind.bits, IntKind.signed]
  omega
def FrF (v P : Value) (g o9 x : Nat) (A H : Nat) (i : Nat) (u : Value) (w : World) : Prop :=
  match i with
  | 0 => u = v
  | 1 => u = P
  | 2 => u = .pointer (some ⟨g, o9, none⟩)
  | 3 => u = .int .u8 (x : Int)
  | 4 => ∃ q, u = .slice (some ⟨q, 0, none⟩) 1 1 ∧ A ≤ q ∧ q ≠ H ∧ v.ownBlock ≠ some q ∧ Bts w u [x]
  | _ => True
structure FrR (W : World) (A : Nat) (v : Value) (L : List Nat) (x : Nat) (C : Value) (D : Nat → Bool) (xs : Nat → Value) (w : World) : Prop where
  keep : KeepsOthers W w
  below : Below A W w
  c1 : Boxed w (A + 1) 57 C
  c2 : Boxed w (A + 2) 3 (.int .i64 64)
  sz : A ≤ w.heap.size
  s0 : D 5 = false → Own A w v L ∧ Boxed w A 57 v
  s1 : D 5 = true → Own A w (xs 5) (L ++ [x]) ∧ ∃ u, Boxed w A 57 u ∧ (D 6 = true → u = xs 5)
theorem FrR.alloc {W : World} {A : Nat} {v : Value} {L : List Nat} {x : Nat} {C : Value} {D : Nat → Bool} {xs : Nat → Value} {w : World} (h : FrR W A v L x C D xs w) (o : Obj) : FrR W A v L x C D xs (w.alloc o) := by
  have hb : Below w.heap.size w (w.alloc o) := (Below.refl _ w).alloc (Nat.le_refl _) _
  refine ⟨h.keep.trans (KeepsOthers.alloc _ _), h.below.alloc h.sz _, h.c1.alloc _, h.c2.alloc _, by have := h.sz; simp; omega, fun e => ⟨(h.s0 e).1.below hb, (h.s0 e).2.alloc _⟩, fun e => ?_⟩
  obtain ⟨h1, u, h2, h3⟩ := h.s1 e
  exact ⟨h1.below hb, u, h2.alloc _, h3⟩
def FrS (A : Nat) (v : Value) (k : Nat) : Prop := k = A ∨ v.ownBlock = some k
theorem FrR.quiet {W : World} {A : Nat} {v : Value} {L : List Nat} {x : Nat} {C : Value} {D : Nat → Bool} {xs : Nat → Value} {w : World} (h : FrR W A v L x C D xs w) (k : Nat) (u : Value) (h5 : k ≠ 5) (h6 : k ≠ 6) : FrR W A v L x C (Ord.wth D k) (Ord.set xs k u) w := by
  have e5 : Ord.wth D k 5 = D 5 := if_neg (Ne.symm h5)
  have e6 : Ord.wth D k 6 = D 6 := if_neg (Ne.symm h6)
  have x5 : Ord.set xs k u 5 = xs 5 := if_neg (Ne.symm h5)
  exact ⟨h.keep, h.below, h.c1, h.c2, h.sz, by rw [e5]; exact h.s0, by rw [e5, e6, x5]; exact h.s1⟩
set_option maxRecDepth 100000 in
set_option maxHeartbeats 2000000 in
theorem fresh_in (g off cap : Nat) (s : List Nat) (w : World) (hb : Bts w (.slice (some ⟨g, off, none⟩) 640 cap) s) (hbl : s.length = 640) :
    CallsIn Fence.wide 4 Tryz.prog 149 #[.slice (some ⟨g, off, none⟩) 640 cap] w fun e w' => ∃ t : Nat, t < 256 ∧ t ∉ Rg.had s 10 ∧ e = .returned (.int .u8 (t : Int)) ∧ Below w.heap.size w w' := by
  refine callsIn_of_wp_marks Tryz.func149 rfl trivial ?_ rfl
  simp only [Tryz.ntmps149, List.size_toArray, List.length_cons, List.length_nil, Nat.reduceAdd, Nat.reduceSub, Array.replicate_succ, Array.replicate_zero, List.push_toArray, List.append_toArray, List.nil_append, List.cons_append]
  gi_wp2_with (refine ⟨trivial, ?_⟩; gi_at_call 102; refine (callsIn_wide.2 (chunk_any _ 64 _ _ _ _ rfl (by decide))).mono ?_; rintro e w' ⟨rfl, rfl⟩)
  obtain ⟨A, hA⟩ : ∃ A, A = w.heap.size := ⟨_, rfl⟩
  obtain ⟨W0, hW0⟩ : ∃ W0, W0 = (((w.alloc (.cells #[.slice none 0 0] 57)).alloc (.cells #[.slice (some ⟨g, off, none⟩) 640 cap] 57)).alloc (.cells #[.int .i64 64] 3)) := ⟨_, rfl⟩
  rw [← hW0, ← hA]
  have hsz : W0.heap.size = A + 3 := by rw [hW0, hA]; simp
  have bS : Boxed W0 A 57 (.slice none 0 0) := by rw [hW0, hA]; exact ((Boxed.new w _ _).alloc _).alloc _
  have bC : Boxed W0 (A + 1) 57 (.slice (some ⟨g, off, none⟩) 640 cap) := by
    have h := (Boxed.new (w.alloc (.cells #[.slice none 0 0] 57)) 57 (.slice (some ⟨g, off, none⟩) 640 cap)).alloc (.cells #[.int .i64 64] 3)
    rw [World.size_alloc] at h
    rw [hW0, hA]; exact h
  have bN : Boxed W0 (A + 2) 3 (.int .i64 64) := by
    have h := Boxed.new ((w.alloc (.cells #[.slice none 0 0] 57)).alloc (.cells #[.slice (some ⟨g, off, none⟩) 640 cap] 57)) 3 (.int .i64 64)
    rw [World.size_alloc, World.size_alloc] at h
    rw [hW0, hA]; exact h
  have hB0 : Below A w W0 := by
    rw [hW0, hA]
    exact (((Below.refl _ w).alloc (Nat.le_refl _) _).alloc (by simp) _).alloc (by simp; omega) _
  have hcapl : 640 ≤ cap ∧ cap ≤ 9223372036854775807 := by
    obtain ⟨p, c, hv, h1, -⟩ := hb.form
    simp only [Value.slice.injEq] at hv
    rw [hv.2.2, ← hbl]; exact h1
  have HA := Lib.hid hA
  have HSZ : Hid (W0.heap.size = A + 3) := hsz
  have HC0 := Lib.hid hcapl
  have HBB := Lib.hid hb
  have HBL := Lib.hid hbl
  clear hW0 hcapl hbl hb hA hsz
  refine wpIn_rangeFunc_ownG (w := W0) (w0 := W0) rfl (by decide) (gf := 142) (lb := #[.pointer (some ⟨A + 1, 0, none⟩), .pointer (some ⟨A + 2, 0, none⟩)]) rfl trivial (enters_of Tryz.func142 (by kernel_rfl) rfl)
    (chunk_stops 3 (by decide) (A + 1) (A + 2) g off 640 cap 64 10 (by decide) (by decide) HC0.out.1 (by decide) W0 (by have := HSZ.out; omega) (by have := HSZ.out; omega) bC.cell bN.cell) (fun h k => h.trans k) (fun W l o o' hl _ _ _ => Kp2.put o' hl (by have := HSZ.out; omega) (by have := HSZ.out; omega)) (Below.refl _ _) (fun _ => rfl)
    (fun pre W => (∃ v, Boxed W A 57 v ∧ W.ownsRow A 5 1 v (pre.map fun i => Rg.b9 s (ckN 10 i)).length (bytesV (pre.map fun i => Rg.b9 s (ckN 10 i))) ∧ (pre.length ≤ 10)) ∧ Boxed W (A + 1) 57 (.slice (some ⟨g, off, none⟩) 640 cap) ∧ Boxed W (A + 2) 3 (.int .i64 64) ∧ Below A w W)
    (fun _ _ _ => False)
    ?hI (fun _ _ _ _ _ hs _ _ => hs) ?h0
    (fun x => { tmps := #[.slice (some ⟨g, off, none⟩) 640 cap, undef, .int .u8 0, .pointer (some ⟨A, 0, none⟩), ckV g off 640 64 (ckN 10 x), undef, .slice (some ⟨g, off, none⟩) 640 cap, .func (.func 142) #[] #[.pointer (some ⟨A + 1, 0, none⟩), .pointer (some ⟨A + 2, 0, none⟩)], ckV g off 640 64 (ckN 10 x), undef, undef, undef, undef, undef, undef, undef, undef, undef, undef, undef, undef], defers := [] }) ?assign ?body ?done ?stop
  case hI => exact OwnFrom.and (Go.Own.from (holdsRow_own A A 57 5 1 (fun pre : List Nat => (pre.map fun i => Rg.b9 s (ckN 10 i)).length) (fun pre => bytesV (pre.map fun i => Rg.b9 s (ckN 10 i))) (fun pre _ => pre.length ≤ 10)) _) (OwnFrom.and (Go.Own.from (box_own (A + 1) 57 (.slice (some ⟨g, off, none⟩) 640 cap)) _) (OwnFrom.and (Go.Own.from (box_own (A + 2) 3 (.int .i64 64)) _) (ownFrom_below (by have := HA.out; omega) (by have := HSZ.out; omega))))
  case h0 => exact ⟨⟨_, bS, World.ownsRow_nil _ _ _ _, Nat.zero_le _⟩, bC, bN, hB0⟩
  case assign =>
    intro l x W K hK
    gi_wp2
    exact hK
  case body =>
    rintro l pre x W ⟨⟨v, hv, hrow, hpl⟩, hC, hN, hB⟩ hlt
    have hAW : A ≤ W.heap.size := by have := hB.size; have := HA.out; omega
    obtain ⟨L, hL⟩ : ∃ L, L = pre.map fun i => Rg.b9 s (ckN 10 i) := ⟨_, rfl⟩
    rw [← hL] at hrow
    have hsmall : ∀ z ∈ L, z < 256 := fun z hz => by
      rw [hL] at hz
      obtain ⟨i, -, rfl⟩ := List.mem_map.1 hz
      exact HBB.out.getD _
    have hLl : L.length ≤ 10 := by rw [hL, List.length_map]; exact hpl
    have hown : Own A W v L := ⟨hrow, hsmall, by omega⟩
    have hBW : Below w.heap.size w W := by rw [← HA.out]; exact hB
    have hgA : g < A := by rw [HA.out]; exact lt_cell (HBB.out.at_ HBL.out 0 (by decide))
    have hck : ckN 10 x < 10 := ckN_lt (by decide) x
    have hcell : W.cell? ⟨g, off + (64 * ckN 10 x + 9), none⟩ = some (.int .u8 ((Rg.b9 s (ckN 10 x) : Nat) : Int)) := (HBB.out.below hBW).at_ HBL.out (64 * ckN 10 x + 9) (by omega)
    have hP : ckV g off 640 64 (ckN 10 x) = .slice (some ⟨g, off + 64 * ckN 10 x, none⟩) 64 64 := by
      unfold ckV ckL
      rw [Nat.min_eq_left (by omega)]
    rw [hP]
    obtain ⟨y, hy⟩ : ∃ y, y = Rg.b9 s (ckN 10 x) := ⟨_, rfl⟩
    obtain ⟨o9, ho9⟩ : ∃ o9, o9 = off + 64 * ckN 10 x + 9 := ⟨_, rfl⟩
    obtain ⟨oP, hoP⟩ : ∃ oP, oP = off + 64 * ckN 10 x := ⟨_, rfl⟩
    rw [← hy, show off + (64 * ckN 10 x + 9) = o9 by rw [ho9]; omega] at hcell
    rw [← hoP]
    have hy256 : y < 256 := by rw [hy]; exact HBB.out.getD _
    have HL := Lib.hid hL
    have HY := Lib.hid hy
    have HO9 : Hid (o9 = oP + 9) := by show _ = _; omega
    clear hP hL hy ho9 hoP hck hsmall hrow
    gi_wp2
    refine Ord.In.walk (fun _ => trivial) (FrF v (.slice (some ⟨g, oP, none⟩) 64 64) g o9 y A A) (FrR W A v L y (.slice (some ⟨g, off, none⟩) 640 cap)) (Touch (FrS A v)) (by kernel_rfl) (by kernel_rfl) ?fr ?hfr ?hT ?hR ?he ?hend
    case hfr =>
      intro xs
      simp only [Ord.fill, Act.put, List.setIfInBounds_toArray, List.set_cons_zero, List.set_cons_succ]
      rfl
    case hT =>
      intro k u w1 w2 ht hF
      rcases k with _ | _ | _ | _ | _ | k
      · exact hF
      · exact hF
      · exact hF
      · exact hF
      · obtain ⟨q, h1, h2, h3, h4, h5⟩ := hF
        refine ⟨q, h1, h2, h3, h4, ht.bts h5 fun _ g' e => ?_⟩
        rw [h1] at e
        simp only [Value.ownBlock, Option.some.injEq] at e
        subst e
        rintro (h | h)
        · exact h3 h
        · exact h4 h
      · trivial
    case hR =>
      intro xs
      exact ⟨⟨Nat.le_refl _, fun _ _ hk _ => hk⟩, (Below.refl _ W).drew, hC, hN, hAW, fun _ => ⟨hown.below ((Below.refl _ W).drew), hv⟩, fun e => by cases e⟩
    case he =>
      refine Ord.In.each_cons (fun D xs w2 hD hC hP hR hA K' hK => ?_) ?_
      ·
        have h5 : D 5 = false := by
          cases e : D 5 with
          | false => rfl
          | true => have := Ord.closed_at hC 5 0 (by kernel_rfl) e; rw [hD] at this; cases this
        have hc := (hR.s0 h5).2.cell
        clear hA
        go_simp
        exact hK _ _ ⟨_, rfl, Touch.refl _ _, hR.quiet 0 _ (by decide) (by decide), rfl⟩
      refine Ord.In.each_cons (fun D xs w2 hD hC hP hR hA K' hK => ?_) ?_
      ·
        clear hA
        go_simp
        exact hK _ _ ⟨_, rfl, Touch.refl _ _, hR.quiet 1 _ (by decide) (by decide), rfl⟩
      refine Ord.In.each_cons (fun D xs w2 hD hC hP hR hA K' hK => ?_) ?_
      ·
        have q1 := Ord.ahead_get _ hA 1 (by decide)
        simp only [FrF] at q1
        simp only [q1] at hK ⊢
        clear hA
        go_simp
        exact hK _ _ ⟨_, rfl, Touch.refl _ _, hR.quiet 2 _ (by decide) (by decide), by show _ = _; rw [HO9.out]⟩
      refine Ord.In.each_cons (fun D xs w2 hD hC hP hR hA K' hK => ?_) ?_
      ·
        have q2 := Ord.ahead_get _ hA 2 (by decide)
        simp only [FrF] at q2
        simp only [q2] at hK ⊢
        clear hA
        have hc := (hR.below.cell (p := ⟨g, o9, none⟩) hgA).trans hcell
        go_simp
        exact hK _ _ ⟨_, rfl, Touch.refl _ _, hR.quiet 3 _ (by decide) (by decide), rfl⟩
      refine Ord.In.each_cons (fun D xs w2 hD hC hP hR hA K' hK => ?_) ?_
      ·
        have q3 := Ord.ahead_get _ hA 3 (by decide)
        simp only [FrF] at q3
        simp only [q3] at hK ⊢
        clear hA
        have h5 : D 5 = false := by
          cases e : D 5 with
          | false => rfl
          | true => have := Ord.closed_at hC 5 4 (by kernel_rfl) e; rw [hD] at this; cases this
        have hlt2 := (hR.s0 h5).2.lt
        have hnq := own_lt (hR.s0 h5).1 (Nat.le_refl w2.heap.size)
        go_simp
        exact hK _ _ ⟨_, rfl, Touch.of_new ((Below.refl _ w2).alloc (Nat.le_refl _) _), (hR.alloc _).quiet 4 _ (by decide) (by decide), ⟨w2.heap.size, rfl, hR.sz, by omega, hnq, bts_alloc w2 [y] 1 (by simp) _ _ (by simpa using hy256) (by simp)⟩⟩
      refine Ord.In.each_cons (fun D xs w2 hD hC hP hR hA K' hK => ?_) ?_
      ·
        have q0 := Ord.ahead_get _ hA 0 (by decide)
        simp only [FrF] at q0
        obtain ⟨q, q4, hq1, hq2, hq3, hqB⟩ := Ord.ahead_get _ hA 4 (by decide)
        simp only [q0, q4] at hK ⊢
        rw [q4] at hqB
        clear hA
        obtain ⟨hO, hbx⟩ := hR.s0 hD
        obtain ⟨v5, w5, hrun, hO5, hb5, hg5⟩ := run_append_Own 57 A v L hO _ [y] hqB (by simp) (by simp; omega) hR.sz
        have h6 : D 6 = false := by
          cases e : D 6 with
          | false => rfl
          | true => have := Ord.closed_at hC 6 5 (by kernel_rfl) e; rw [hD] at this; cases this
        refine (if_pos (by rfl)).mpr ?_
        refine wpIn_append_run (.tmp 9) (.tmp 13) _ _ rfl _ _ rfl rfl v5 w5 hrun ?_
        refine hK _ _ ⟨v5, rfl, ⟨hg5.os, hg5.tape, hg5.output, hg5.size, fun i hi hs => hg5.block i hi fun e => hs (Or.inr e.symm)⟩, ?_, trivial⟩
        have x5 : Ord.set xs 5 v5 5 = v5 := if_pos rfl
        have d5 : Ord.wth D 5 5 = true := if_pos rfl
        have d6 : Ord.wth D 5 6 = D 6 := if_neg (by decide)
        exact ⟨hR.keep.trans (keeps_own hO hg5), hR.below.trans hb5, hR.c1.kept hg5 (hR.c1.not_row (by decide) hO.own), hR.c2.kept hg5 (hR.c2.not_row (by decide) hO.own), Nat.le_trans hR.sz hg5.size, (fun e => by rw [d5] at e; cases e), fun _ => ⟨by rw [x5]; exact hO5, v, hbx.kept hg5 (hbx.not_row (by decide) hO.own), fun e => by rw [d6, h6] at e; cases e⟩⟩
      refine Ord.In.each_cons (fun D xs w2 hD hC hP hR hA K' hK => ?_) ?_
      ·
        clear hA
        have h5 : D 5 = true := hP { on := 5, ground := .data } (by simp) rfl
        obtain ⟨hO, u, hbx, -⟩ := hR.s1 h5
        obtain ⟨g5, c5, e5, -, -⟩ := own_some2 hO (by simp)
        simp only [e5] at hK ⊢
        rw [e5] at hO
        have hc6 := hbx.cell
        have hf6 := hbx.frozen
        have hll : (L ++ [y]).length = L.length + 1 := by simp
        rw [hll] at hO hK
        go_simp
        refine hK _ _ ⟨undef, rfl, Touch.set A 0 _ (Or.inl rfl), ?_, trivial⟩
        have x5 : Ord.set xs 6 undef 5 = xs 5 := if_neg (by decide)
        have d5 : Ord.wth D 6 5 = D 5 := if_neg (by decide)
        have hg6 := grownBy_setCell' w2 A (.slice (some ⟨g5, 0, none⟩) (L.length + 1) c5)
        refine ⟨hR.keep.trans (KeepsOthers.setCell _ _ _), hR.below.setCell (p := ⟨A, 0, none⟩) (Nat.le_refl A) _, hR.c1.kept hg6 (by simp), hR.c2.kept hg6 (by simp), Nat.le_trans hR.sz hg6.size, (fun e => by rw [d5, h5] at e; cases e), fun _ => ⟨?_, _, hbx.set _, fun _ => ?_⟩⟩
        · rw [x5, e5, hll]
          exact ⟨hO.own.kept hg6 (.inr (hbx.not_row (by decide) hO.own).symm), hO.small, hO.len⟩
        · rw [x5, e5, hll]
      exact Ord.In.each_nil
    case hend =>
      intro D xs w9 hR hF
      obtain ⟨hO, u, hbx, hu⟩ := hR.s1 (hF 5 (by decide)).1
      obtain rfl := hu (hF 6 (by decide)).1
      clear hF
      gi_wp2
      have hEq : (pre ++ [x]).map (fun i => Rg.b9 s (ckN 10 i)) = L ++ [y] := by
        rw [List.map_append, ← HL.out, HY.out]; rfl
      refine ⟨hR.keep.from _, ⟨hR.c1.cell.trans hC.cell.symm, hR.c2.cell.trans hN.cell.symm⟩, ⟨_, hbx, ?_, ?_⟩, hR.c1, hR.c2, hB.trans hR.below⟩
      · have hEl : (pre ++ [x]).length = (L ++ [y]).length := by
          have := congrArg List.length hEq
          rw [List.length_map] at this; exact this
        rw [hEq, hEl]; exact hO.own
      · rw [List.length_append]; exact hlt
  case done =>
    rintro D ys W hD rfl ⟨⟨v, hv, hrow, -⟩, hC, hN, hB⟩ hK
    obtain ⟨L, hL⟩ : ∃ L, L = (List.range 10).map fun i => Rg.b9 s (ckN 10 i) := ⟨_, rfl⟩
    rw [← hL] at hrow
    have hLh : L = Rg.had s 10 := by
      rw [hL, Rg.had_b9]
      refine List.map_congr_left fun i hi => ?_
      rw [ckN_of (List.mem_range.1 hi)]
    have hLl : L.length = 10 := by rw [hL]; simp
    have hown : Own A W v L := ⟨hrow, fun z hz => by
      rw [hL] at hz
      obtain ⟨i, -, rfl⟩ := List.mem_map.1 hz
      exact HBB.out.getD _, by omega⟩
    have hbt := hown.bts
    obtain ⟨g1, c1, rfl, -, -⟩ := own_some2 hown (by omega)
    have hc := hv.cell
    have HLH := Lib.hid hLh
    have HLL := Lib.hid hLl
    have HKD := Lib.hid hK
    have HDD := Lib.hid hD
    have HBW := Lib.hid hB
    clear hrow hown hL hLh hLl hK hD hB hv hC hN
    gi_wp2
    gi_loopw [5] (fun i wr => ∃ k : Nat, k ≤ 10 ∧ i = .int .u8 (k : Int) ∧ (∀ j, j < k → j ∈ L) ∧ W = wr) (fun i _ => 11 - (intOf i).toNat)
    case atStart => exact ⟨0, Nat.zero_le _, rfl, fun j hj => absurd hj (Nat.not_lt_zero _), rfl⟩
    case round =>
      obtain ⟨k, hk, rfl, hn, rfl⟩ := hrel
      have HN := Lib.hid hn
      have hcc := contains8_any _ c1 L k (by omega) W hbt
      by_cases hm : k ∈ L
      · have hkl := Rg.all_le (k + 1) L fun j hj => by
          by_cases e : j = k
          · rw [e]; exact hm
          · exact hn j (by omega)
        have hk9 : k + 1 ≤ 10 := by have := HLL.out; omega
        rw [decide_eq_true hm] at hcc
        have hw := wrap8_in ((k : Int) + 1) (by omega) (by omega)
        have HN2 : Hid (∀ j, j < k + 1 → j ∈ L) := fun j hj => by
          by_cases e : j = k
          · rw [e]; exact hm
          · exact hn j (by omega)
        have HK9 : Hid (k + 1 ≤ 10) := hk9
        clear hn hm hkl hk9 hbt
        gi_wp2_with (refine ⟨trivial, ?_⟩; gi_at_call 177; refine (callsIn_wide.2 hcc).mono ?_; rintro e w' ⟨rfl, rfl⟩)
        go_roundw
        case rel => exact ⟨k + 1, HK9.out, by go_num, HN2.out, by first | rfl | trivial⟩
        case measure => have := HK9.out; simp [intOf]; omega
      · rw [decide_eq_false hm] at hcc
        have HM := Lib.hid hm
        clear hn hm hbt
        gi_wp2_with (refine ⟨trivial, ?_⟩; gi_at_call 177; refine (callsIn_wide.2 hcc).mono ?_; rintro e w' ⟨rfl, rfl⟩)
        refine ⟨by simp, .inl ⟨_, _, rfl, run_takeDeferred HKD.out, ?_⟩⟩
        have hDw : w.heap.size ≤ D := by have := HSZ.out; have := HA.out; have := HDD.out; omega
        have hb9 : Below w.heap.size w W := by rw [← HA.out]; exact HBW.out
        exact ⟨_, results_tmp rfl _ _ _, k, by omega, by rw [← HLH.out]; exact HM.out, rfl, hb9.trans (belowK_b (w := w) (Nat.le_refl _) W D _ _ hDw HKD.out rfl rfl)⟩
  case stop =>
    rintro D c pre W _ _ h _
    exact h.elim
theorem fresh_any (g off cap : Nat) (s : List Nat) (w : World) (hb : Bts w (.slice (some ⟨g, off, none⟩) 640 cap) s) (hbl : s.length = 640) :
    Calls Tryz.prog 149 #[.slice (some ⟨g, off, none⟩) 640 cap] w fun e w' => ∃ t : Nat, t < 256 ∧ t ∉ Rg.had s 10 ∧ e = .returned (.int .u8 (t : Int)) ∧ Below w.heap.size w w' := callsIn_wide.1 (fresh_in g off cap s w hb hbl)
end Go.Proofs.YtbpodmallknhfaaGreat
namespace Go.Proofs.YtbpodmallknhfaaGreat
open Go.RowKit
theorem run_append_tight {w : World} (ty : TypeId) (g1 o1 : Nat) (l1 : List Nat) (h1 : Bts w (.slice (some ⟨g1, o1, none⟩) l1.length l1.length) l1) (h10 : 0 < l1.length) (g2 o2 c2 : Nat) (l2 : List Nat) (h2 : Bts w (.slice (some ⟨g2, o2, none⟩) l2.length c2) l2) (h20 : 0 < l2.length) (hl : l1.length + l2.length ≤ 1000000) :
    ∃ v' w', (Builtin.append_ #[57, 57] ty #[.slice (some ⟨g1, o1, none⟩) l1.length l1.length, .slice (some ⟨g2, o2, none⟩) l2.length c2]).run Tryz.prog w = .ok v' w' ∧ Own w.heap.size w' v' (l1 ++ l2) ∧ Below w.heap.size w w' := by
  obtain ⟨i0, hi, hz0, hz1, hz2⟩ := info_parts info5
  have cells : ∀ {g o c : Nat} {l : List Nat}, Bts w (.slice (some ⟨g, o, none⟩) l.length c) l → ∀ j u, (bytesV l)[j]? = some u → w.cell? ((⟨g, o, none⟩ : Addr).add j) = some u := fun {g o c l} h j u hj => by
    have hjl : j < l.length := by
      rcases Nat.lt_or_ge j l.length with h1 | h1
      · exact h1
      · rw [List.getElem?_eq_none (by simpa [bytesV] using h1)] at hj; simp at hj
    have hadd : (⟨g, o, none⟩ : Addr).add j = ⟨g, o + j, none⟩ := by unfold Addr.add; split <;> simp_all
    rw [hadd, h.at_ rfl j hjl, ← hj]
    simp [bytesV, List.getElem?_eq_getElem hjl]
  obtain ⟨v', w', hr, hown, hg⟩ := run_append_arg_grows (P := Tryz.prog) (w := w) 57 ty 5 i0 (.int .u8 0) 1 1 Tryz.underlying57 hi hz0 hz1 hz2 rfl (by decide) ⟨g1, o1, none⟩ l1.length l1.length (bytesV l1) (by simp [bytesV]) (cells h1) ⟨g2, o2, none⟩ l2.length c2 (bytesV l2) (by simp [bytesV]) (cells h2) (by omega) (by unfold maxLen; omega) (by omega)
  have hb : bytesV l1 ++ bytesV l2 = bytesV (l1 ++ l2) := by simp [bytesV]
  rw [hb, ← List.length_append] at hown
  refine ⟨v', w', hr, ⟨hown, fun y hy => ?_, by rw [List.length_append]; omega⟩, (Below.refl _ _).grown hg (Nat.le_refl _) fun k hk => by cases hk⟩
  rcases List.mem_append.1 hy with hy | hy
  · exact h1.small y hy
  · exact h2.small y hy
set_option maxHeartbeats 1600000 in
set_option maxRecDepth 20000 in
theorem tag_any (n t : Nat) (hn : n < 65536) (ht : t < 256) (w : World) :
    Calls Tryz.prog 103 #[.int .i64 (n : Int), .int .u8 (t : Int)] w fun e w' => ∃ u, e = .returned u ∧ Own w.heap.size w' u (Rg.tag n t) ∧ Below w.heap.size w w' := by
  have hw1 : IntKind.u8.wrap (n : Int) = ((n % 256 : Nat) : Int) := by
    have e : IntKind.u8.wrap (n : Int) = (n : Int) % 256 := by simp [IntKind.wrap, IntKind.bits, IntKind.signed]
    rw [e]; omega
  have hcv := Lib.run_convert_bytes_const (P := Tryz.prog) w 57 5 #[.int .u8 112, .int .u8 117, .int .u8 116, .int .u8 32, .int .u8 98, .int .u8 97, .int .u8 99, .int .u8 107, .int .u8 32] 9 9 Tryz.underlying57 Tryz.underlying5
  go_enter Tryz.func103, Tryz.ntmps103
  obtain ⟨W1, hW1⟩ : ∃ W1, W1 = w.alloc (.cells #[.int .u8 112, .int .u8 117, .int .u8 116, .int .u8 32, .int .u8 98, .int .u8 97, .int .u8 99, .int .u8 107, .int .u8 32] 5 (9, 10)) := ⟨_, rfl⟩
  obtain ⟨W2, hW2⟩ : ∃ W2, W2 = W1.alloc (.cells #[.int .u8 (t : Int), .int .u8 ((n : Int) % 256), .int .u8 ((n : Int) / 256)] 5) := ⟨_, rfl⟩
  have hs1 : W1.heap.size = w.heap.size + 1 := by rw [hW1]; simp
  have b1 : Bts W1 (.slice (some ⟨w.heap.size, 0, none⟩) Rg.mark.length Rg.mark.length) Rg.mark := by
    rw [hW1]
    exact bts_alloc w Rg.mark 9 (by decide) 5 (9, 10) (by decide) (by decide)
  have b2 : Bts W2 (.slice (some ⟨W1.heap.size, 0, none⟩) [t, n % 256, n / 256 % 256].length 3) [t, n % 256, n / 256 % 256] := by
    have e1 : ((n : Int) % 256) = ((n % 256 : Nat) : Int) := by omega
    have e2 : ((n : Int) / 256) = ((n / 256 % 256 : Nat) : Int) := by omega
    rw [hW2, e1, e2]
    exact bts_alloc W1 [t, n % 256, n / 256 % 256] 3 (by simp) 5 (0, 0) (by
      intro x hx
      simp only [List.mem_cons, List.not_mem_nil, or_false] at hx
      omega) (by simp)
  have b1' : Bts W2 (.slice (some ⟨w.heap.size, 0, none⟩) Rg.mark.length Rg.mark.length) Rg.mark := by
    rw [hW2]; exact b1.below ((Below.refl _ W1).alloc (Nat.le_refl _) _)
  obtain ⟨v', w', hrun, hO, hb⟩ := run_append_tight 57 _ _ _ b1' (by decide) _ _ _ _ b2 (by simp) (by simp [Rg.mark])
  have hb2 : Below w.heap.size w w' := by
    have : Below w.heap.size w W2 := by
      rw [hW2, hW1]
      exact ((Below.refl _ w).alloc (Nat.le_refl _) _).alloc (by simp) _
    exact this.trans (hb.mono this.size)
  have hO2 : Own w.heap.size w' v' (Rg.tag n t) := hO.from (by rw [hW2]; simp; omega)
  obtain ⟨gv, cv, rfl, -, -⟩ := own_some2 hO2 (by simp [Rg.tag, Rg.mark])
  rw [hs1] at hrun
  have HR := Lib.hid hrun
  have HB := Lib.hid hb2
  have HO := Lib.hid hO2
  have HW : Hid (W2 = (w.alloc (.cells #[.int .u8 112, .int .u8 117, .int .u8 116, .int .u8 32, .int .u8 98, .int .u8 97, .int .u8 99, .int .u8 107, .int .u8 32] 5 (9, 10))).alloc (.cells #[.int .u8 (t : Int), .int .u8 ((n : Int) % 256), .int .u8 ((n : Int) / 256)] 5)) := by show _ = _; rw [hW2, hW1]
  clear hrun hb2 hO2 hO hb b1 b1' b2 hs1 hW1 hW2
  go_upto_region 1 with (fail)
  iterate 28 go_step
  rw [← HW.out]
  refine Lib.wpList_append_run _ rfl (.tmp 6) (.tmp 13) _ _ rfl _ _ rfl rfl _ _ HR.out ?_
  go_wp2_with fail
  go_ret
  exact ⟨_, rfl, HO.out, HB.out⟩
end Go.Proofs.YtbpodmallknhfaaGreat
