/- What the program's device makes of a write. Conditions: the device's blocks; the slice's cells hold the bytes; they are none of the device's. -/
import Derived.Test.YtkmkbjjpbodbfaaDkRead
import Derived.Test.YtkmkbjjpbodbfaaOrd
namespace Go.Proofs.Ytkmkbjjpbodbfaa
open Go.RowKit

/-- A slice of 128 bytes as an array. -/
theorem Bts.array {w : World} {v : Value} {b : List Nat} (h : Bts w v b) (hb : b.length = 128) :
    ∃ g off cap, v = .slice (some ⟨g, off, none⟩) 128 cap ∧ (∀ i, i < 128 → w.cell? ⟨g, off + i, none⟩ = some (.int .u8 (b.getD i 0 : Nat))) := by
  obtain ⟨p, cap, hv, _, _, hp⟩ := h.form
  obtain ⟨g, off, hpe, hc⟩ := hp (by omega)
  rw [hb] at hv hc
  exact ⟨g, off, cap, by rw [hv, hpe], hc⟩
theorem load_array {w : World} {g off : Nat} {b : List Nat} (hb : b.length = 128) (hc : ∀ i, i < 128 → w.cell? ⟨g, off + i, none⟩ = some (.int .u8 (b.getD i 0 : Nat))) :
    (loadVar 77 ⟨g, off, none⟩).run Try.prog w = .ok (av b) w := by
  have hl := run_loadCells_list (P := Try.prog) w ⟨g, off, none⟩ (bytesV b) (fun j v hv => by
    have hadd : (⟨g, off, none⟩ : Addr).add j = ⟨g, off + j, none⟩ := by unfold Addr.add; split <;> simp_all
    have hj : j < b.length := by
      rcases Nat.lt_or_ge j b.length with h | h
      · exact h
      · rw [List.getElem?_eq_none (by simpa [bytesV] using h)] at hv; cases hv
    rw [hadd, hc j (by omega), ← hv]
    simp [bytesV, hj, List.getD_eq_getElem?_getD])
  rw [bytesV_length, hb] at hl
  have hagg : (isAgg 77).run Try.prog w = .ok true w := Try.isAgg77 w
  have hi := zero_arr.2
  cases hq : Try.prog.info? 77 with
  | none => rw [hq] at hi; cases hi
  | some i =>
    have hs : i.size = 128 := by simpa [hq] using hi
    simp [loadVar, Sem.run_bind, hagg, sizeOf, typeInfo, hq, hs, hl, av]
theorem wp_load_at {o : Oper} {a : Act} {w : World} {K : Act → World → Prop} {Q : Exit → Act → World → Prop} (ty : TypeId) (x : Operand) (ho : o.op = .load ty x)
    (p : Addr) (hx : a.eval x = .pointer (some p)) (v : Value) (hl : (loadVar ty p).run Try.prog w = .ok v w) (h : K (a.put o.dst v) w) : o.wp Try.prog a w K Q := by
  unfold Oper.wp execOp
  simp only [ho, hx, Instr.loadAt, Instr.sureAddr, Sem.run_bind, Sem.run_pure, Result.andThen_ok, hl]
  exact h
theorem zero_cells : av Dk.blank = .agg Try.zeroCells77 := by kernel_rfl

/-- Is there room for one more? What the operations leave. -/
def Fu (B m1 n k : Nat) (i : Nat) (x : Value) (_ : World) : Prop :=
  match i with
  | 0 => x = .pointer (some ⟨B, 0, none⟩)
  | 1 => x = .pointer (some ⟨B, 0, none⟩)
  | 2 => x = .pointer (some ⟨B, 2, none⟩)
  | 3 => x = .map (some m1)
  | 4 => x = .int .i64 (k : Int)
  | 5 => x = .pointer (some ⟨B, 0, none⟩)
  | 6 => x = .pointer (some ⟨B, 0, none⟩)
  | 7 => x = .pointer (some ⟨B, 1, none⟩)
  | 8 => x = .int .i64 (n : Int)
  | 9 => x = .bool ((k : Int) == (n : Int))
  | _ => True
/-- The bytes are put into the map of what waits: what the operations leave. -/
def Pu (B m2 : Nat) (at_ : Nat) (v : Value) (p : Addr) (b : List Nat) (i : Nat) (x : Value) (_ : World) : Prop :=
  match i with
  | 0 => x = .pointer (some ⟨B, 0, none⟩)
  | 1 => x = .pointer (some ⟨B, 0, none⟩)
  | 2 => x = .pointer (some ⟨B, 3, none⟩)
  | 3 => x = .map (some m2)
  | 4 => x = .int .i64 (at_ : Int)
  | 5 => x = v
  | 6 => x = .pointer (some p)
  | 7 => x = av b
  | _ => True
def PuR (w1 : World) (m2 at_ : Nat) (b : List Nat) (L : List (Option (List Nat))) (D : Nat → Bool) (_ : Nat → Value) (w : World) : Prop :=
  Touch (· = m2) w1 w ∧ (D 8 = false → MapAt w m2 L) ∧ (D 8 = true → MapAt w m2 (L.set at_ (some b)))

set_option maxHeartbeats 3200000 in
set_option maxRecDepth 20000 in
theorem write_any {B m1 m2 : Nat} {d : Dk.Dev} {w : World} (h : PDev w B m1 m2 d) (a : Int) (v : Value) (b : List Nat) (hB : Bts w v b) (hv : 0 < b.length → ∀ g, v.ownBlock = some g → ¬ DS B m1 m2 g) :
    Calls Try.prog 37 #[.pointer (some ⟨B, 0, none⟩), .int .i64 a, v] w fun e w' => e = .returned (.int .i64 ((Dk.write d a b).2 : Nat)) ∧ PDev w' B m1 m2 (Dk.write d a b).1 ∧ Touch (DS B m1 m2) w w' := by
  have HH := Lib.hid h
  have hr := ready_any h
  have hbl := hB.len
  by_cases ho : d.off = true
  · have hg : Dk.write d a b = (d, 6) := if_pos ho
    rw [hg]
    rw [ho] at hr
    obtain ⟨p, cap, rfl, hcap, -, -⟩ := hB.form
    clear hg ho h hB hv
    go_enter Try.func37, Try.ntmps37
    go_wp2_with (go_at_call 39; refine hr.mono ?_; rintro e w' ⟨rfl, rfl⟩)
    go_ret
    exact ⟨rfl, HH.out, .refl _ _⟩
  have hof : d.off = false := by cases h : d.off <;> simp_all
  have HOF := Lib.hid hof
  rw [hof] at hr
  have hh := has_any h a
  by_cases hn : Dk.bad d a
  · have hg : Dk.write d a b = (d, 2) := by unfold Dk.write; rw [if_neg ho, if_pos (Or.inl hn)]
    rw [hg]
    rw [show decide (¬ Dk.bad d a) = false by simp [hn]] at hh
    obtain ⟨p, cap, rfl, hcap, -, -⟩ := hB.form
    clear hg ho hof h hn hB hv
    go_enter Try.func37, Try.ntmps37
    go_wp2_with (first | (go_at_call 39; refine hr.mono ?_; rintro e w' ⟨rfl, rfl⟩) | (go_at_call 52; refine hh.mono ?_; rintro e w' ⟨rfl, rfl⟩))
    go_ret
    exact ⟨rfl, HH.out, .refl _ _⟩
  rw [show decide (¬ Dk.bad d a) = true by simp [hn]] at hh
  by_cases hl : b.length ≠ 128
  · have hg : Dk.write d a b = (d, 2) := by unfold Dk.write; rw [if_neg ho, if_pos (Or.inr hl)]
    rw [hg]
    obtain ⟨p, cap, rfl, hcap, -, -⟩ := hB.form
    have hne : ((b.length : Int) == 128) = false := by rw [beq_eq_false_iff_ne]; omega
    generalize (b.length : Int) = z at *
    clear hg ho hof h hn hB hv
    go_enter Try.func37, Try.ntmps37
    go_wp2_with (first | (go_at_call 39; refine hr.mono ?_; rintro e w' ⟨rfl, rfl⟩) | (go_at_call 52; refine hh.mono ?_; rintro e w' ⟨rfl, rfl⟩))
    go_ret
    exact ⟨rfl, HH.out, .refl _ _⟩
  have hb : b.length = 128 := by omega
  have hsz := h.own.size
  obtain ⟨i, rfl⟩ : ∃ i : Nat, a = i := ⟨a.toNat, by unfold Dk.bad at hn; omega⟩
  have hi : i < Dk.size d := by unfold Dk.bad at hn; omega
  have hsec : Dk.Sec b := ⟨hb, hB.small⟩
  have hgb : Dk.write d i b = if d.seen.getD i false = false ∧ d.most ≤ Dk.used d then (d, 5) else (Dk.goes (Dk.put d i b), if (Dk.goes (Dk.put d i b)).off then 6 else 0) := by
    unfold Dk.write; rw [if_neg ho, if_neg (by rintro (h | h); exact hn h; exact h hb), Int.toNat_natCast]
  obtain ⟨g, off, cap, rfl, hcell⟩ := hB.array hb
  have hgn : ¬ DS B m1 m2 g := hv (by omega) g rfl
  have HSZ := Lib.hid hsz
  have HSB := Lib.hid hsec
  have HLB := Lib.hid hb
  have HI := Lib.hid hi
  have HIL := Lib.hid (show i < d.waits.length by rw [h.own.ok.w]; exact hi)
  have HGB := Lib.hid (show ¬ g = m2 from fun e => hgn (Or.inr (Or.inr e)))
  have HGN := Lib.hid hgn
  have HCE := Lib.hid hcell
  have hlk := h.lasts.look_ok (a := (i : Int)) (by omega) (by omega)
  rw [gz_nat, Dk.seenL_getD h.own.ok hi] at hlk
  have hS2 := gz_sec h.lasts (i : Int)
  rw [gz_nat, Dk.seenL_getD h.own.ok hi] at hS2
  have HS2 := Lib.hid hS2
  have hz := zero_arr.1
  have c2 := h.c2
  rw [hgb]
  obtain ⟨c, hc1, hc2⟩ : ∃ c : Int, ((if (Dk.goes (Dk.put d i b)).off then 6 else 0 : Nat) : Int) = c ∧ (if (Dk.goes (Dk.put d i b)).off then (6 : Int) else 0) = c := ⟨_, rfl, by split <;> rfl⟩
  have HC2 := Lib.hid hc2
  clear hc2
  clear hgb hB hv hcell hgn hsec hb hi hn hl ho hof hS2 hbl hsz
  by_cases hsn : d.seen.getD i false = true
  · rw [if_neg (by rw [hsn]; rintro ⟨h, _⟩; cases h)]
    dsimp only
    rw [hc1]
    clear hc1
    rw [hsn] at hlk HS2
    simp only [if_true, Option.getD_some, Option.isSome_some] at hlk HS2
    have HSN := Lib.hid hsn
    clear hsn h
    generalize d.lasts.getD i [] = bb at *
    go_enter Try.func37, Try.ntmps37
    go_upto_region 6 with (first | (go_at_call 39; refine hr.mono ?_; rintro e w' ⟨rfl, rfl⟩) | (go_at_call 52; refine hh.mono ?_; rintro e w' ⟨rfl, rfl⟩))
    iterate 31 go_step
    have hrow : SecAt (w'.alloc (.cells (bytesV Dk.blank).toArray 77)) w'.heap.size Dk.blank := heap_alloc_last _ _
    refine wpList_store_sec rfl (.tmp 8) (.tmp 31) rfl w'.heap.size rfl _ rfl _ hrow (by decide) HS2.out.1 ?_
    intro w1 _ t1
    have hb1 : Below w'.heap.size w' w1 := ((Below.refl _ w').alloc (Nat.le_refl _) _).trans (t1.below (fun i hi => by rw [hi]; exact Nat.le_refl _) (by simp))
    have HTW := Lib.hid (Touch.of_new (S := DS B m1 m2) hb1)
    have HP2 := Lib.hid (HH.out.below hb1)
    have HC3 := Lib.hid HP2.out.c3
    have HCB := Lib.hid (fun j (hj : j < 128) => HTW.out.cell (HCE.out j hj) HGN.out)
    have HFIN := Lib.hid (show ∀ w3, Touch (· = m2) w1 w3 → MapAt w3 m2 (d.waits.set i (some b)) → PDev w3 B m1 m2 (Dk.put d i b) from fun w3 ht hm =>
      ⟨Dk.own_put HP2.out.own HI.out HSB.out (Or.inr HSN.out), ht.row HP2.out.blk (fun e => HP2.out.b2 e), by rw [Dk.seenL_put_old HP2.out.own HI.out HSN.out]; exact HP2.out.lasts.touch ht (fun e => HP2.out.n12 e), hm, HP2.out.b1, HP2.out.b2, HP2.out.n12⟩)
    clear hrow t1 hb1 hlk hz c2 hr hh

    go_upto_region 11 with (fail)
    refine Ord.walk (Pu B m2 i (.slice (some ⟨g, off, none⟩) 128 cap) ⟨g, off, none⟩ b) (PuR w1 m2 i b d.waits) (fun _ _ => True)
      (by kernel_rfl) (by kernel_rfl) ?frW1 ?hfrW1 (fun _ _ _ _ _ h => h) ?hsW1 ?heW1 ?hendW1
    case hsW1 => exact fun _ => ⟨(Touch.refl _ _).drew, fun _ => HP2.out.waits.touch (S := fun _ => False) (Touch.refl _ _).drew id, fun h => by cases h⟩
    case hfrW1 =>
      intro xs
      simp only [Ord.fill, Act.put, List.setIfInBounds_toArray, List.set_cons_zero, List.set_cons_succ]
      rfl
    case heW1 =>
      refine Ord.each_cons (fun D xs w2 hD hC hP hR hA K hK => ?_) ?_
      · -- 0
        clear hA
        go_simp
        exact hK _ _ ⟨_, rfl, trivial, hR, rfl⟩
      refine Ord.each_cons (fun D xs w2 hD hC hP hR hA K hK => ?_) ?_
      · -- 1
        have q0 := Ord.ahead_get _ hA 0 (by decide)
        simp only [Pu] at q0
        simp only [q0] at hK
        clear hA
        go_simp
        exact hK _ _ ⟨_, rfl, trivial, hR, rfl⟩
      refine Ord.each_cons (fun D xs w2 hD hC hP hR hA K hK => ?_) ?_
      · -- 2
        have q1 := Ord.ahead_get _ hA 1 (by decide)
        simp only [Pu] at q1
        simp only [q1] at hK
        clear hA
        go_simp
        exact hK _ _ ⟨_, rfl, trivial, hR, rfl⟩
      refine Ord.each_cons (fun D xs w2 hD hC hP hR hA K hK => ?_) ?_
      · -- 3
        have q2 := Ord.ahead_get _ hA 2 (by decide)
        simp only [Pu] at q2
        simp only [q2] at hK
        clear hA
        have c0 := hR.1.cell HC3.out (fun e => HP2.out.b2 e)
        go_simp
        exact hK _ _ ⟨_, rfl, trivial, hR, rfl⟩
      refine Ord.each_cons (fun D xs w2 hD hC hP hR hA K hK => ?_) ?_
      · -- 4
        clear hA
        go_simp
        exact hK _ _ ⟨_, rfl, trivial, hR, rfl⟩
      refine Ord.each_cons (fun D xs w2 hD hC hP hR hA K hK => ?_) ?_
      · -- 5
        clear hA
        go_simp
        exact hK _ _ ⟨_, rfl, trivial, hR, rfl⟩
      refine Ord.each_cons (fun D xs w2 hD hC hP hR hA K hK => ?_) ?_
      · -- 6
        have q5 := Ord.ahead_get _ hA 5 (by decide)
        simp only [Pu] at q5
        simp only [q5] at hK
        clear hA
        go_simp
        exact hK _ _ ⟨_, rfl, trivial, hR, rfl⟩
      refine Ord.each_cons (fun D xs w2 hD hC hP hR hA K hK => ?_) ?_
      · -- 7
        have q6 := Ord.ahead_get _ hA 6 (by decide)
        simp only [Pu] at q6
        clear hA
        have c0 := load_array HLB.out (fun i hi => hR.1.cell (HCB.out i hi) HGB.out)
        rw [if_pos (by rfl)]
        exact wp_load_at 77 (.tmp 57) rfl ⟨g, off, none⟩ q6 _ c0 (hK _ _ ⟨_, rfl, trivial, hR, rfl⟩)
      refine Ord.each_cons (fun D xs w2 hD hC hP hR hA K hK => ?_) ?_
      · -- 8
        have q3 := Ord.ahead_get _ hA 3 (by decide)
        simp only [Pu] at q3
        have q4 := Ord.ahead_get _ hA 4 (by decide)
        simp only [Pu] at q4
        have q7 := Ord.ahead_get _ hA 7 (by decide)
        simp only [Pu] at q7
        simp only [q3, q4, q7] at hK
        clear hA
        obtain ⟨w9, hrun, hm9, ht9⟩ := (hR.2.1 hD).put (i := i) HIL.out HSB.out
        go_simp
        exact hK _ _ ⟨undef, rfl, trivial, ⟨hR.1.trans ht9, fun h => (by cases h), fun _ => hm9⟩, trivial⟩
      exact Ord.each_nil
    case hendW1 =>
      intro D xs w3 hR hF
      obtain ⟨ht3, -, hm3⟩ := hR
      have hm3 := hm3 (hF 8 (by decide)).1
      have e0 := (hF 0 (by decide)).2
      have e1 := (hF 1 (by decide)).2
      have e2 := (hF 2 (by decide)).2
      have e3 := (hF 3 (by decide)).2
      have e4 := (hF 4 (by decide)).2
      have e5 := (hF 5 (by decide)).2
      have e6 := (hF 6 (by decide)).2
      have e7 := (hF 7 (by decide)).2
      simp only [Pu] at e0 e1 e2 e3 e4 e5 e6 e7
      rw [e0, e1, e2, e3, e4, e5, e6, e7]
      have HP3 := Lib.hid (HFIN.out w3 ht3 hm3)
      have HT3 := Lib.hid (HTW.out.trans (ht3.mono (T := DS B m1 m2) fun _ _ h => Or.inr (Or.inr h)))
      have hop := operation_any HP3.out HOF.out
      rw [HC2.out] at hop
      clear e0 e1 e2 e3 e4 e5 e6 e7 hF hm3 ht3
      go_wp2_with fail
      refine hop.mono ?_
      rintro e w4 ⟨rfl, hP4, ht4⟩
      have HP4 := Lib.hid hP4
      have HT4 := Lib.hid (HT3.out.trans (ht4.mono (T := DS B m1 m2) fun _ _ h => Or.inl h))
      clear hP4 ht4 hop
      go_wp2_with fail
      go_ret
      exact ⟨rfl, HP4.out, HT4.out⟩
  have hsn' : d.seen.getD i false = false := by cases h : d.seen.getD i false <;> simp_all
  rw [hsn'] at hlk HS2 ⊢
  simp only [if_neg (show ¬ (false = true) by decide), Option.getD_none, Option.isSome_none] at hlk HS2
  have HSN := Lib.hid hsn'
  have hun := h.own.used
  have hmo := h.own.most
  clear hsn hsn' h
  by_cases hfu : d.most ≤ Dk.used d
  · rw [if_pos ⟨rfl, hfu⟩]
    have hku : ((Dk.used d : Int) == (d.most : Int)) = true := by rw [beq_iff_eq]; omega
    have HKU := Lib.hid hku
    clear hku hfu
    go_enter Try.func37, Try.ntmps37
    go_upto_region 6 with (first | (go_at_call 39; refine hr.mono ?_; rintro e w' ⟨rfl, rfl⟩) | (go_at_call 52; refine hh.mono ?_; rintro e w' ⟨rfl, rfl⟩))
    iterate 31 go_step
    have hrow : SecAt (w'.alloc (.cells (bytesV Dk.blank).toArray 77)) w'.heap.size Dk.blank := heap_alloc_last _ _
    refine wpList_store_sec rfl (.tmp 8) (.tmp 31) rfl w'.heap.size rfl _ rfl _ hrow (by decide) HS2.out.1 ?_
    intro w1 _ t1
    have hb1 : Below w'.heap.size w' w1 := ((Below.refl _ w').alloc (Nat.le_refl _) _).trans (t1.below (fun i hi => by rw [hi]; exact Nat.le_refl _) (by simp))
    have HTW := Lib.hid (Touch.of_new (S := DS B m1 m2) hb1)
    have HP1 := Lib.hid (HH.out.below hb1)
    clear hrow t1 hb1 hlk hz c2 hr hh
    go_upto_region 8 with (fail)
    refine Ord.walk (Fu B m1 d.most (Dk.used d)) (fun _ _ w' => Touch (fun _ => False) w1 w') (fun _ _ => True)
      (by kernel_rfl) (by kernel_rfl) ?frB ?hfrB (fun _ _ _ _ _ h => h) ?hsB ?heB ?hendB
    case hsB => exact fun _ => (Touch.refl _ _).drew
    case hfrB =>
      intro xs
      simp only [Ord.fill, Act.put, List.setIfInBounds_toArray, List.set_cons_zero, List.set_cons_succ]
      rfl
    case heB =>
      refine Ord.each_cons (fun D xs w2 hD hC hP hR hA K hK => ?_) ?_
      · -- 0
        clear hA
        go_simp
        exact hK _ _ ⟨_, rfl, trivial, hR, rfl⟩
      refine Ord.each_cons (fun D xs w2 hD hC hP hR hA K hK => ?_) ?_
      · -- 1
        have q0 := Ord.ahead_get _ hA 0 (by decide)
        simp only [Fu] at q0
        simp only [q0] at hK
        clear hA
        go_simp
        exact hK _ _ ⟨_, rfl, trivial, hR, rfl⟩
      refine Ord.each_cons (fun D xs w2 hD hC hP hR hA K hK => ?_) ?_
      · -- 2
        have q1 := Ord.ahead_get _ hA 1 (by decide)
        simp only [Fu] at q1
        simp only [q1] at hK
        clear hA
        go_simp
        exact hK _ _ ⟨_, rfl, trivial, hR, rfl⟩
      refine Ord.each_cons (fun D xs w2 hD hC hP hR hA K hK => ?_) ?_
      · -- 3
        have q2 := Ord.ahead_get _ hA 2 (by decide)
        simp only [Fu] at q2
        simp only [q2] at hK
        clear hA
        have c0 := (HP1.out.keep (nothing_touch hR) (fun _ _ h => h)).c2
        go_simp
        exact hK _ _ ⟨_, rfl, trivial, hR, rfl⟩
      refine Ord.each_cons (fun D xs w2 hD hC hP hR hA K hK => ?_) ?_
      · -- 4
        have q3 := Ord.ahead_get _ hA 3 (by decide)
        simp only [Fu] at q3
        simp only [q3] at hK
        clear hA
        have c0 := (HP1.out.keep (nothing_touch hR) (fun _ _ h => h)).lasts.len_run
        rw [Dk.seenL_used HP1.out.own.ok] at c0
        go_simp
        exact hK _ _ ⟨_, rfl, trivial, hR, rfl⟩
      refine Ord.each_cons (fun D xs w2 hD hC hP hR hA K hK => ?_) ?_
      · -- 5
        clear hA
        go_simp
        exact hK _ _ ⟨_, rfl, trivial, hR, rfl⟩
      refine Ord.each_cons (fun D xs w2 hD hC hP hR hA K hK => ?_) ?_
      · -- 6
        have q5 := Ord.ahead_get _ hA 5 (by decide)
        simp only [Fu] at q5
        simp only [q5] at hK
        clear hA
        go_simp
        exact hK _ _ ⟨_, rfl, trivial, hR, rfl⟩
      refine Ord.each_cons (fun D xs w2 hD hC hP hR hA K hK => ?_) ?_
      · -- 7
        have q6 := Ord.ahead_get _ hA 6 (by decide)
        simp only [Fu] at q6
        simp only [q6] at hK
        clear hA
        go_simp
        exact hK _ _ ⟨_, rfl, trivial, hR, rfl⟩
      refine Ord.each_cons (fun D xs w2 hD hC hP hR hA K hK => ?_) ?_
      · -- 8
        have q7 := Ord.ahead_get _ hA 7 (by decide)
        simp only [Fu] at q7
        simp only [q7] at hK
        clear hA
        have c0 := (HP1.out.keep (nothing_touch hR) (fun _ _ h => h)).c1
        go_simp
        exact hK _ _ ⟨_, rfl, trivial, hR, rfl⟩
      refine Ord.each_cons (fun D xs w2 hD hC hP hR hA K hK => ?_) ?_
      · -- 9
        have q4 := Ord.ahead_get _ hA 4 (by decide)
        simp only [Fu] at q4
        have q8 := Ord.ahead_get _ hA 8 (by decide)
        simp only [Fu] at q8
        simp only [q4, q8] at hK
        clear hA
        go_simp
        exact hK _ _ ⟨_, rfl, trivial, hR, rfl⟩
      exact Ord.each_nil
    case hendB =>
      intro D xs w3 hR hF
      have e9 := (hF 9 (by decide)).2
      simp only [Fu] at e9
      rw [e9, HKU.out]
      have HP3 := Lib.hid (HP1.out.keep (nothing_touch hR) (fun _ _ h => h))
      have HT3 := Lib.hid (HTW.out.trans (nothing_touch (S := DS B m1 m2) hR))
      clear e9 hF hR
      generalize xs 0 = z0
      generalize xs 1 = z1
      generalize xs 2 = z2
      generalize xs 3 = z3
      generalize xs 4 = z4
      generalize xs 5 = z5
      generalize xs 6 = z6
      generalize xs 7 = z7
      generalize xs 8 = z8
      go_wp2_with fail
      go_ret
      exact ⟨rfl, HP3.out, HT3.out⟩
  · rw [if_neg (by rintro ⟨_, h⟩; exact hfu h)]
    dsimp only
    rw [hc1]
    clear hc1
    have hku : ((Dk.used d : Int) == (d.most : Int)) = false := by rw [beq_eq_false_iff_ne]; omega
    have HKU := Lib.hid hku
    have HUN := Lib.hid (show Dk.used d < d.most by omega)
    clear hku hfu
    go_enter Try.func37, Try.ntmps37
    go_upto_region 6 with (first | (go_at_call 39; refine hr.mono ?_; rintro e w' ⟨rfl, rfl⟩) | (go_at_call 52; refine hh.mono ?_; rintro e w' ⟨rfl, rfl⟩))
    iterate 31 go_step
    have hrow : SecAt (w'.alloc (.cells (bytesV Dk.blank).toArray 77)) w'.heap.size Dk.blank := heap_alloc_last _ _
    refine wpList_store_sec rfl (.tmp 8) (.tmp 31) rfl w'.heap.size rfl _ rfl _ hrow (by decide) HS2.out.1 ?_
    intro w1 _ t1
    have hb1 : Below w'.heap.size w' w1 := ((Below.refl _ w').alloc (Nat.le_refl _) _).trans (t1.below (fun i hi => by rw [hi]; exact Nat.le_refl _) (by simp))
    have HTW1 := Lib.hid (Touch.of_new (S := DS B m1 m2) hb1)
    have HP1 := Lib.hid (HH.out.below hb1)
    clear hrow t1 hb1 hlk hz c2 hr hh
    go_upto_region 8 with (fail)
    refine Ord.walk (Fu B m1 d.most (Dk.used d)) (fun _ _ w' => Touch (fun _ => False) w1 w') (fun _ _ => True)
      (by kernel_rfl) (by kernel_rfl) ?frA ?hfrA (fun _ _ _ _ _ h => h) ?hsA ?heA ?hendA
    case hsA => exact fun _ => (Touch.refl _ _).drew
    case hfrA =>
      intro xs
      simp only [Ord.fill, Act.put, List.setIfInBounds_toArray, List.set_cons_zero, List.set_cons_succ]
      rfl
    case heA =>
      refine Ord.each_cons (fun D xs w2 hD hC hP hR hA K hK => ?_) ?_
      · -- 0
        clear hA
        go_simp
        exact hK _ _ ⟨_, rfl, trivial, hR, rfl⟩
      refine Ord.each_cons (fun D xs w2 hD hC hP hR hA K hK => ?_) ?_
      · -- 1
        have q0 := Ord.ahead_get _ hA 0 (by decide)
        simp only [Fu] at q0
        simp only [q0] at hK
        clear hA
        go_simp
        exact hK _ _ ⟨_, rfl, trivial, hR, rfl⟩
      refine Ord.each_cons (fun D xs w2 hD hC hP hR hA K hK => ?_) ?_
      · -- 2
        have q1 := Ord.ahead_get _ hA 1 (by decide)
        simp only [Fu] at q1
        simp only [q1] at hK
        clear hA
        go_simp
        exact hK _ _ ⟨_, rfl, trivial, hR, rfl⟩
      refine Ord.each_cons (fun D xs w2 hD hC hP hR hA K hK => ?_) ?_
      · -- 3
        have q2 := Ord.ahead_get _ hA 2 (by decide)
        simp only [Fu] at q2
        simp only [q2] at hK
        clear hA
        have c0 := (HP1.out.keep (nothing_touch hR) (fun _ _ h => h)).c2
        go_simp
        exact hK _ _ ⟨_, rfl, trivial, hR, rfl⟩
      refine Ord.each_cons (fun D xs w2 hD hC hP hR hA K hK => ?_) ?_
      · -- 4
        have q3 := Ord.ahead_get _ hA 3 (by decide)
        simp only [Fu] at q3
        simp only [q3] at hK
        clear hA
        have c0 := (HP1.out.keep (nothing_touch hR) (fun _ _ h => h)).lasts.len_run
        rw [Dk.seenL_used HP1.out.own.ok] at c0
        go_simp
        exact hK _ _ ⟨_, rfl, trivial, hR, rfl⟩
      refine Ord.each_cons (fun D xs w2 hD hC hP hR hA K hK => ?_) ?_
      · -- 5
        clear hA
        go_simp
        exact hK _ _ ⟨_, rfl, trivial, hR, rfl⟩
      refine Ord.each_cons (fun D xs w2 hD hC hP hR hA K hK => ?_) ?_
      · -- 6
        have q5 := Ord.ahead_get _ hA 5 (by decide)
        simp only [Fu] at q5
        simp only [q5] at hK
        clear hA
        go_simp
        exact hK _ _ ⟨_, rfl, trivial, hR, rfl⟩
      refine Ord.each_cons (fun D xs w2 hD hC hP hR hA K hK => ?_) ?_
      · -- 7
        have q6 := Ord.ahead_get _ hA 6 (by decide)
        simp only [Fu] at q6
        simp only [q6] at hK
        clear hA
        go_simp
        exact hK _ _ ⟨_, rfl, trivial, hR, rfl⟩
      refine Ord.each_cons (fun D xs w2 hD hC hP hR hA K hK => ?_) ?_
      · -- 8
        have q7 := Ord.ahead_get _ hA 7 (by decide)
        simp only [Fu] at q7
        simp only [q7] at hK
        clear hA
        have c0 := (HP1.out.keep (nothing_touch hR) (fun _ _ h => h)).c1
        go_simp
        exact hK _ _ ⟨_, rfl, trivial, hR, rfl⟩
      refine Ord.each_cons (fun D xs w2 hD hC hP hR hA K hK => ?_) ?_
      · -- 9
        have q4 := Ord.ahead_get _ hA 4 (by decide)
        simp only [Fu] at q4
        have q8 := Ord.ahead_get _ hA 8 (by decide)
        simp only [Fu] at q8
        simp only [q4, q8] at hK
        clear hA
        go_simp
        exact hK _ _ ⟨_, rfl, trivial, hR, rfl⟩
      exact Ord.each_nil
    case hendA =>
      intro D xs w3 hR hF
      have e9 := (hF 9 (by decide)).2
      simp only [Fu] at e9
      rw [e9, HKU.out]
      have HP3 := Lib.hid (HP1.out.keep (nothing_touch hR) (fun _ _ h => h))
      have HT3 := Lib.hid (HTW1.out.trans (nothing_touch (S := DS B m1 m2) hR))
      clear e9 hF hR
      generalize xs 0 = z0
      generalize xs 1 = z1
      generalize xs 2 = z2
      generalize xs 3 = z3
      generalize xs 4 = z4
      generalize xs 5 = z5
      generalize xs 6 = z6
      generalize xs 7 = z7
      generalize xs 8 = z8
      have c2 := HP3.out.c2
      obtain ⟨w2, hrun, hm2, ht2⟩ := HP3.out.lasts.put (i := i) (by rw [Dk.seenL_length HP3.out.own.ok]; exact HI.out) Dk.sec_blank
      rw [zero_cells] at hrun
      have HTW := Lib.hid (HT3.out.trans (ht2.mono (T := DS B m1 m2) fun _ _ h => Or.inr (Or.inl h)))
      have HM2 := Lib.hid hm2
      have HB2 := Lib.hid (ht2.row HP3.out.blk (fun e => HP3.out.b1 e))
      have HP2 := Lib.hid (show MapAt w2 m2 d.waits ∧ m1 ≠ m2 ∧ B ≠ m2 from ⟨HP3.out.waits.touch ht2 (fun e => HP3.out.n12 e.symm), HP3.out.n12, HP3.out.b2⟩)
      have HC3 := Lib.hid (blk_cell (v := .map (some m2)) HB2.out 3 rfl)
      have HCB := Lib.hid (fun j (hj : j < 128) => HTW.out.cell (HCE.out j hj) HGN.out)
      have HFIN := Lib.hid (show ∀ w3, Touch (· = m2) w2 w3 → MapAt w3 m2 (d.waits.set i (some b)) → PDev w3 B m1 m2 (Dk.put d i b) from fun w3 ht hm =>
        ⟨Dk.own_put HP3.out.own HI.out HSB.out (Or.inl HUN.out), ht.row HB2.out (fun e => HP3.out.b2 e), by rw [Dk.seenL_put_new HP3.out.own HI.out HSN.out]; exact HM2.out.touch ht (fun e => HP3.out.n12 e), hm, HP3.out.b1, HP3.out.b2, HP3.out.n12⟩)
      clear hm2 ht2
      go_upto_region 11 with (fail)
      refine Ord.walk (Pu B m2 i (.slice (some ⟨g, off, none⟩) 128 cap) ⟨g, off, none⟩ b) (PuR w2 m2 i b d.waits) (fun _ _ => True)
        (by kernel_rfl) (by kernel_rfl) ?frW2 ?hfrW2 (fun _ _ _ _ _ h => h) ?hsW2 ?heW2 ?hendW2
      case hsW2 => exact fun _ => ⟨(Touch.refl _ _).drew, fun _ => HP2.out.1.touch (S := fun _ => False) (Touch.refl _ _).drew id, fun h => by cases h⟩
      case hfrW2 =>
        intro xs
        simp only [Ord.fill, Act.put, List.setIfInBounds_toArray, List.set_cons_zero, List.set_cons_succ]
        rfl
      case heW2 =>
        refine Ord.each_cons (fun D xs w2 hD hC hP hR hA K hK => ?_) ?_
        · -- 0
          clear hA
          go_simp
          exact hK _ _ ⟨_, rfl, trivial, hR, rfl⟩
        refine Ord.each_cons (fun D xs w2 hD hC hP hR hA K hK => ?_) ?_
        · -- 1
          have q0 := Ord.ahead_get _ hA 0 (by decide)
          simp only [Pu] at q0
          simp only [q0] at hK
          clear hA
          go_simp
          exact hK _ _ ⟨_, rfl, trivial, hR, rfl⟩
        refine Ord.each_cons (fun D xs w2 hD hC hP hR hA K hK => ?_) ?_
        · -- 2
          have q1 := Ord.ahead_get _ hA 1 (by decide)
          simp only [Pu] at q1
          simp only [q1] at hK
          clear hA
          go_simp
          exact hK _ _ ⟨_, rfl, trivial, hR, rfl⟩
        refine Ord.each_cons (fun D xs w2 hD hC hP hR hA K hK => ?_) ?_
        · -- 3
          have q2 := Ord.ahead_get _ hA 2 (by decide)
          simp only [Pu] at q2
          simp only [q2] at hK
          clear hA
          have c0 := hR.1.cell HC3.out (fun e => HP2.out.2.2 e)
          go_simp
          exact hK _ _ ⟨_, rfl, trivial, hR, rfl⟩
        refine Ord.each_cons (fun D xs w2 hD hC hP hR hA K hK => ?_) ?_
        · -- 4
          clear hA
          go_simp
          exact hK _ _ ⟨_, rfl, trivial, hR, rfl⟩
        refine Ord.each_cons (fun D xs w2 hD hC hP hR hA K hK => ?_) ?_
        · -- 5
          clear hA
          go_simp
          exact hK _ _ ⟨_, rfl, trivial, hR, rfl⟩
        refine Ord.each_cons (fun D xs w2 hD hC hP hR hA K hK => ?_) ?_
        · -- 6
          have q5 := Ord.ahead_get _ hA 5 (by decide)
          simp only [Pu] at q5
          simp only [q5] at hK
          clear hA
          go_simp
          exact hK _ _ ⟨_, rfl, trivial, hR, rfl⟩
        refine Ord.each_cons (fun D xs w2 hD hC hP hR hA K hK => ?_) ?_
        · -- 7
          have q6 := Ord.ahead_get _ hA 6 (by decide)
          simp only [Pu] at q6
          clear hA
          have c0 := load_array HLB.out (fun i hi => hR.1.cell (HCB.out i hi) HGB.out)
          rw [if_pos (by rfl)]
          exact wp_load_at 77 (.tmp 57) rfl ⟨g, off, none⟩ q6 _ c0 (hK _ _ ⟨_, rfl, trivial, hR, rfl⟩)
        refine Ord.each_cons (fun D xs w2 hD hC hP hR hA K hK => ?_) ?_
        · -- 8
          have q3 := Ord.ahead_get _ hA 3 (by decide)
          simp only [Pu] at q3
          have q4 := Ord.ahead_get _ hA 4 (by decide)
          simp only [Pu] at q4
          have q7 := Ord.ahead_get _ hA 7 (by decide)
          simp only [Pu] at q7
          simp only [q3, q4, q7] at hK
          clear hA
          obtain ⟨w9, hrun, hm9, ht9⟩ := (hR.2.1 hD).put (i := i) HIL.out HSB.out
          go_simp
          exact hK _ _ ⟨undef, rfl, trivial, ⟨hR.1.trans ht9, fun h => (by cases h), fun _ => hm9⟩, trivial⟩
        exact Ord.each_nil
      case hendW2 =>
        intro D xs w3 hR hF
        obtain ⟨ht3, -, hm3⟩ := hR
        have hm3 := hm3 (hF 8 (by decide)).1
        have e0 := (hF 0 (by decide)).2
        have e1 := (hF 1 (by decide)).2
        have e2 := (hF 2 (by decide)).2
        have e3 := (hF 3 (by decide)).2
        have e4 := (hF 4 (by decide)).2
        have e5 := (hF 5 (by decide)).2
        have e6 := (hF 6 (by decide)).2
        have e7 := (hF 7 (by decide)).2
        simp only [Pu] at e0 e1 e2 e3 e4 e5 e6 e7
        rw [e0, e1, e2, e3, e4, e5, e6, e7]
        have HP3 := Lib.hid (HFIN.out w3 ht3 hm3)
        have HT3 := Lib.hid (HTW.out.trans (ht3.mono (T := DS B m1 m2) fun _ _ h => Or.inr (Or.inr h)))
        have hop := operation_any HP3.out HOF.out
        rw [HC2.out] at hop
        clear e0 e1 e2 e3 e4 e5 e6 e7 hF hm3 ht3
        go_wp2_with fail
        refine hop.mono ?_
        rintro e w4 ⟨rfl, hP4, ht4⟩
        have HP4 := Lib.hid hP4
        have HT4 := Lib.hid (HT3.out.trans (ht4.mono (T := DS B m1 m2) fun _ _ h => Or.inl h))
        clear hP4 ht4 hop
        go_wp2_with fail
        go_ret
        exact ⟨rfl, HP4.out, HT4.out⟩
end Go.Proofs.Ytkmkbjjpbodbfaa
