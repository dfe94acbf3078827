/- Rows of the call's own: made of noughts, and copied into. Conditions: the room. -/
import Derived.Test.YtbfpmpomcaijcaaSlVal
import Derived.Test.YtbfpmpomcaijcaaOwnSet
import Derived.Laws.CopyRow
import Derived.Laws.IdiomCopy
namespace Go.Proofs.Ytbfpmpomcaijcaa
open Go.RowKit

/-- A row behind a copy into it. -/
def laid {α : Type} (l : List α) (off : Nat) (cs : List α) : List α := l.take off ++ (cs ++ l.drop (off + cs.length))
theorem laid_length {α : Type} (l : List α) (off : Nat) (cs : List α) (h : off + cs.length ≤ l.length) : (laid l off cs).length = l.length := by
  unfold laid
  simp only [List.length_append, List.length_take, List.length_drop]
  omega
theorem laid_map {α β : Type} (f : α → β) (l : List α) (off : Nat) (cs : List α) : (laid l off cs).map f = laid (l.map f) off (cs.map f) := by
  unfold laid
  simp [List.map_take, List.map_drop]
theorem laid_all {α : Type} (l cs : List α) (h : cs.length = l.length) : laid l 0 cs = cs := by
  unfold laid
  rw [Nat.zero_add, List.drop_of_length_le (by omega)]
  simp
theorem mem_laid {α : Type} {l cs : List α} {off : Nat} {x : α} (h : x ∈ laid l off cs) : x ∈ l ∨ x ∈ cs := by
  unfold laid at h
  rcases List.mem_append.1 h with h | h
  · exact Or.inl (List.mem_of_mem_take h)
  · rcases List.mem_append.1 h with h | h
    · exact Or.inr h
    · exact Or.inl (List.mem_of_mem_drop h)

theorem grownBy_setRow (w : World) (g : Nat) (cs : Array Value) : w.grownBy (w.setRow g cs) (some g) :=
  ⟨rfl, rfl, rfl, by simp [World.setRow], fun k _ hr => setRow_other w g k cs (fun e => hr (by rw [e]))⟩

theorem ownsRow_setRow {w : World} {base n c g off : Nat} {T : TypeId} {xs cs : List Value} (h : w.ownsRow base T 1 (.slice (some ⟨g, 0, none⟩) n c) n xs) (hfit : off + cs.length ≤ n) :
    ∃ cur : Array Value, w.heap[g]? = some (.cells cur T (0, 0)) ∧ off + cs.length ≤ cur.size ∧
      (w.setRow g (cur.toList.take off ++ cs ++ cur.toList.drop (off + cs.length)).toArray).ownsRow base T 1 (.slice (some ⟨g, 0, none⟩) n c) n (laid xs off cs) := by
  obtain ⟨h1, h2⟩ := h
  rcases h2 with ⟨h2, _⟩ | ⟨g', c', cur, hv, hg, hh, h3, h4, h5, h6⟩
  · cases h2
  · simp only [Value.slice.injEq, Option.some.injEq, Addr.mk.injEq] at hv
    obtain ⟨⟨rfl, -, -⟩, -, rfl⟩ := hv
    rw [Nat.mul_one] at h1 h5 h6
    refine ⟨cur, hh, by omega, ?_, Or.inr ⟨g, c, _, rfl, hg, setRow_heap w g cur _ T _ hh, h3, h4, ?_, ?_⟩⟩
    · rw [laid_length _ _ _ (by omega), h1, Nat.mul_one]
    · simp only [List.size_toArray, List.length_append, List.length_take, List.length_drop, Array.length_toList]
      omega
    · rw [Nat.mul_one, ← h6]
      have hcl : cur.toList.length = c := by rw [Array.length_toList]; omega
      generalize cur.toList = L at *
      unfold laid
      apply List.ext_getElem?
      intro i
      simp only [List.getElem?_take, List.getElem?_append, List.getElem?_drop, List.length_take, List.length_append]
      by_cases a1 : i < n
      · rw [if_pos a1]
        by_cases a2 : i < off
        · rw [if_pos (by omega), if_pos (by omega), if_pos (by omega), if_pos (by omega), if_pos (by omega), if_pos (by omega)]
        · by_cases a3 : i < off + cs.length
          · rw [if_pos (by omega), if_neg (by omega), if_neg (by omega), if_pos (by omega)]
            congr 1; omega
          · rw [if_neg (by omega), if_neg (by omega), if_neg (by omega), if_pos (by omega)]
            congr 1; omega
      · rw [if_neg a1]
        symm
        by_cases a2 : i < off
        · omega
        · rw [if_neg (by omega), if_neg (by omega), if_neg (by omega)]

/-- A copy of one-cell elements into a row of the call's own. -/
theorem wp_copy_row {w : World} {o : Oper} {a : Act} {K : Act → World → Prop} {Q : Exit → Act → World → Prop} (d s : Operand) (T TS : TypeId) (hu : Try.prog.underlying TS = some (.slice T)) (hsz : (Try.prog.info? T).map (·.size) = some 1)
    (ho : o.op = .call { callee := .builtin .copy, args := #[d, s], argTypes := #[TS, TS] })
    (base g n c off : Nat) (xs : List Value) (hO : w.ownsRow base T 1 (.slice (some ⟨g, 0, none⟩) n c) n xs)
    (dp : Option Addr) (dLen dCap : Nat) (hd : a.eval d = .slice dp dLen dCap) (sp : Option Addr) (sCap : Nat) (cs : List Value) (hs : a.eval s = .slice sp cs.length sCap)
    (hsrc : 0 < cs.length → ∃ ad, sp = some ad ∧ ∀ j v, cs[j]? = some v → w.cell? (ad.add j) = some v) (h1 : ∀ v ∈ cs, v.oneCell' = true)
    (hdl : cs.length ≤ dLen) (hdp : 0 < cs.length → dp = some ⟨g, off, none⟩) (hfit : off + cs.length ≤ n)
    (h : ∀ w', w'.ownsRow base T 1 (.slice (some ⟨g, 0, none⟩) n c) n (laid xs off cs) → w.grownBy w' (some g) → K (a.put o.dst (.int .i64 (cs.length : Int))) w') : o.wp Try.prog a w K Q := by
  obtain ⟨cur, hh, hsz2, hown⟩ := ownsRow_setRow hO hfit
  by_cases h0 : cs.length = 0
  · obtain rfl : cs = [] := List.eq_nil_of_length_eq_zero h0
    have hrun := run_copy_none (P := Try.prog) w TS TS o.type T dp sp dLen dCap 0 sCap hu hsz (by simp)
    have e : laid xs off [] = xs := by unfold laid; simp
    rw [e] at h
    have hk := h w hO (grownBy_refl _ _)
    unfold Oper.wp
    simp [execOp, ho, resolve, invoke, builtin, hd, hs, hrun, Result.andThen]
    exact hk
  · obtain rfl := hdp (by omega)
    obtain ⟨ad, rfl, hcell⟩ := hsrc (by omega)
    have hrun := run_copy_row (P := Try.prog) w TS TS o.type T g off dLen dCap ad cs.length sCap cur T cs hu hsz hh (Nat.min_eq_left hdl).symm hcell hsz2 h1
    have hk := h _ hown (grownBy_setRow _ _ _)
    unfold Oper.wp
    rw [List.append_assoc] at hrun hk
    simp [execOp, ho, resolve, invoke, builtin, hd, hs, hrun, Result.andThen]
    exact hk

/-- Bytes copied into a row of the call's own. -/
theorem wp_copy_Own {w : World} {o : Oper} {a : Act} {K : Act → World → Prop} {Q : Exit → Act → World → Prop} (d s : Operand)
    (ho : o.op = .call { callee := .builtin .copy, args := #[d, s], argTypes := #[30, 30] })
    (base g n c off : Nat) (L : List Nat) (hO : Own base w (.slice (some ⟨g, 0, none⟩) n c) L) (hn : L.length = n)
    (dp : Option Addr) (dLen dCap : Nat) (hd : a.eval d = .slice dp dLen dCap) (sv : Value) (l : List Nat) (hs : a.eval s = sv) (hB : Bts w sv l)
    (hdl : l.length ≤ dLen) (hdp : 0 < l.length → dp = some ⟨g, off, none⟩) (hfit : off + l.length ≤ n)
    (h : ∀ w', Own base w' (.slice (some ⟨g, 0, none⟩) n c) (laid L off l) → w.grownBy w' (some g) → K (a.put o.dst (.int .i64 (l.length : Int))) w') : o.wp Try.prog a w K Q := by
  subst hn
  obtain ⟨p, cap, rfl, _, hnn, hp⟩ := hB.form
  obtain ⟨i0, hi, hz0, hz1, hz2⟩ := info_parts info5
  have hl : (bytesV l).length = l.length := bytesV_length l
  rw [← hl] at hs hdl hdp hfit
  refine wp_copy_row d s 5 30 Try.underlying30 (by rw [hi]; simp [hz1]) ho base g L.length c off (bytesV L) hO.own dp dLen dCap hd p cap (bytesV l) hs ?_ ?_ hdl hdp hfit ?_
  · intro h0
    rw [hl] at h0
    obtain ⟨b, of, rfl, hc⟩ := hp h0
    refine ⟨_, rfl, fun j v hj => ?_⟩
    have hjl : j < l.length := by
      rcases Nat.lt_or_ge j l.length with h1 | h1
      · exact h1
      · rw [List.getElem?_eq_none (by rw [hl]; exact h1)] at hj; cases hj
    have hadd : (⟨b, of, none⟩ : Addr).add j = ⟨b, of + j, none⟩ := by unfold Addr.add; split <;> simp_all
    rw [hadd, hc j hjl, ← hj]
    simp [bytesV, List.getElem?_eq_getElem hjl]
  · intro v hv
    simp only [bytesV, List.mem_map] at hv
    obtain ⟨y, _, rfl⟩ := hv
    rfl
  · intro w' hown hg
    rw [hl] at hfit ⊢
    refine h w' ⟨?_, ?_, by rw [laid_length _ _ _ hfit]; exact hO.len⟩ hg
    · rw [laid_length _ _ _ hfit]
      have e : bytesV (laid L off l) = laid (bytesV L) off (bytesV l) := laid_map _ _ _ _
      rw [e]; exact hown
    · intro x hx
      rcases mem_laid hx with hx | hx
      · exact hO.small x hx
      · exact hB.small x hx

/-- Bools copied over a row of as many. -/
theorem Bo.wp_copy_all {w : World} {o : Oper} {a : Act} {K : Act → World → Prop} {Q : Exit → Act → World → Prop} (d s : Operand)
    (ho : o.op = .call { callee := .builtin .copy, args := #[d, s], argTypes := #[23, 23] })
    (base g n c : Nat) (L : List Value) (hO : Bo.Own base w (.slice (some ⟨g, 0, none⟩) n c) L) (hd : a.eval d = .slice (some ⟨g, 0, none⟩) n c) (sv : Value) (l : List Value) (hs : a.eval s = sv) (hB : Bo.Bts w sv l) (hn : L.length = n) (hl : l.length = n)
    (h : ∀ w', Bo.Own base w' (.slice (some ⟨g, 0, none⟩) n c) l → w.grownBy w' (some g) → K (a.put o.dst (.int .i64 (n : Int))) w') : o.wp Try.prog a w K Q := by
  subst hl
  obtain ⟨p, cap, rfl, _, hnn, hp⟩ := hB.form
  obtain ⟨i0, hi, hz0, hz1, hz2⟩ := info_parts Bo.info5
  have hOo := hO.own
  rw [hn] at hOo
  refine wp_copy_row d s 4 23 Try.underlying23 (by rw [hi]; simp [hz1]) ho base g l.length c 0 (Bo.bytesV L) hOo _ _ _ hd p cap l hs ?_ ?_ (Nat.le_refl _) (fun _ => rfl) (by omega) ?_
  · intro h0
    obtain ⟨b, of, rfl, hc⟩ := hp h0
    refine ⟨_, rfl, fun j v hj => ?_⟩
    have hjl : j < l.length := by
      rcases Nat.lt_or_ge j l.length with h1 | h1
      · exact h1
      · rw [List.getElem?_eq_none h1] at hj; cases hj
    have hadd : (⟨b, of, none⟩ : Addr).add j = ⟨b, of + j, none⟩ := by unfold Addr.add; split <;> simp_all
    rw [hadd, hc j hjl, ← hj]
    simp [List.getElem?_eq_getElem hjl]
  · intro v hv
    exact hB.small v hv
  · intro w' hown hg
    rw [laid_all _ _ (show l.length = (Bo.bytesV L).length by rw [Bo.bytesV_length, hn])] at hown
    exact h w' ⟨hown, hB.small, hB.len⟩ hg

/-- A new row of n noughts, as one operation. -/
theorem wp_make_row {w : World} {o : Oper} {a : Act} {K : Act → World → Prop} {Q : Exit → Act → World → Prop} (x c : Operand) (T TS : TypeId) (z : Value) (bytes : Nat) (hinfo : (Try.prog.info? T).map (fun i => (i.zero, i.size, i.bytes)) = some (some z, 1, bytes)) (hzc : z.cells = #[z]) (hu : Try.prog.underlying TS = some (.slice T))
    (hop : o.op = Op.makeSlice TS x c) (base : Nat) (kl kc : IntKind) (n : Nat) (hl : a.eval x = .int kl (n : Int)) (hc : a.eval c = .int kc (n : Int)) (hn : bytes * n ≤ 281474976710656) (hn2 : n ≤ maxLen) (hbase : base ≤ w.heap.size)
    (h : ∀ w', w'.ownsRow base T 1 (.slice (some ⟨w.heap.size, 0, none⟩) n n) n (List.replicate n z) → w.grownBy w' none → K (a.put o.dst (.slice (some ⟨w.heap.size, 0, none⟩) n n)) w') : o.wp Try.prog a w K Q := by
  obtain ⟨i0, hi, hz0, hz1, hz2⟩ := info_parts hinfo
  obtain ⟨w', hrun, r1, r2⟩ := run_make_full (P := Try.prog) w base TS T i0 z 1 hu hi hz0 hz1 kl kc n (by rw [hz2]; exact hn) hn2 hbase
  have e : (madeCells z.cells (n * 1)).toList = List.replicate n z := by rw [hzc, Nat.mul_one, toList_madeCells_one]
  rw [e] at r1
  have hk := h w' r1 r2
  unfold Oper.wp
  simp [execOp, hop, hl, hc, hrun, Result.andThen]
  exact hk

theorem Bo.wp_make_len {w : World} {o : Oper} {a : Act} {K : Act → World → Prop} {Q : Exit → Act → World → Prop} (x c : Operand) (hop : o.op = Op.makeSlice 23 x c) (base : Nat) (kl kc : IntKind) (n : Nat) (hl : a.eval x = .int kl (n : Int)) (hc : a.eval c = .int kc (n : Int)) (hn : n ≤ 1000000) (hbase : base ≤ w.heap.size)
    (h : ∀ w', Bo.Own base w' (.slice (some ⟨w.heap.size, 0, none⟩) n n) (FB (List.replicate n false)) → w.grownBy w' none → K (a.put o.dst (.slice (some ⟨w.heap.size, 0, none⟩) n n)) w') : o.wp Try.prog a w K Q := by
  refine wp_make_row x c 4 23 (.bool false) 1 Bo.info5 rfl Try.underlying23 hop base kl kc n hl hc (by omega) (by unfold maxLen; omega) hbase fun w' h1 h2 => h w' ⟨?_, ?_, ?_⟩ h2
  · rw [fb_length, List.length_replicate]
    have e : Bo.bytesV (FB (List.replicate n false)) = List.replicate n (.bool false) := by show FB _ = _; unfold FB; rw [List.map_replicate]
    rw [e]; exact h1
  · intro y hy
    unfold FB at hy
    obtain ⟨z, -, rfl⟩ := List.mem_map.1 hy
    rfl
  · rw [fb_length, List.length_replicate]; omega

theorem Sv.wp_make_len {w : World} {o : Oper} {a : Act} {K : Act → World → Prop} {Q : Exit → Act → World → Prop} (x c : Operand) (hop : o.op = Op.makeSlice 24 x c) (base : Nat) (kl kc : IntKind) (n : Nat) (hl : a.eval x = .int kl (n : Int)) (hc : a.eval c = .int kc (n : Int)) (hn : n ≤ 1000000) (hbase : base ≤ w.heap.size)
    (h : ∀ w', DOwn base w' (.slice (some ⟨w.heap.size, 0, none⟩) n n) (List.replicate n nilS) (List.replicate n []) → w.grownBy w' none → K (a.put o.dst (.slice (some ⟨w.heap.size, 0, none⟩) n n)) w') : o.wp Try.prog a w K Q := by
  refine wp_make_row x c 30 24 nilS 24 Sv.info5 rfl Try.underlying24 hop base kl kc n hl hc (by omega) (by unfold maxLen; omega) hbase fun w' h1 h2 => h w' ⟨⟨?_, ?_, ?_⟩, ?_, ?_⟩ h2
  · rw [List.length_replicate]; exact h1
  · intro y hy
    rw [(List.mem_replicate.1 hy).2]; rfl
  · rw [List.length_replicate]; omega
  · simp
  · intro i hi
    rw [List.length_replicate] at hi
    have e1 : (List.replicate n nilS).getD i nilS = nilS := by simp [List.getD_eq_getElem?_getD, hi]
    have e2 : (List.replicate n ([] : List Nat)).getD i [] = [] := by simp [List.getD_eq_getElem?_getD, hi]
    rw [e1, e2]; exact _root_.Go.Proofs.Ytbfpmpomcaijcaa.own_nil _ _

theorem wp_make_len {w : World} {o : Oper} {a : Act} {K : Act → World → Prop} {Q : Exit → Act → World → Prop} (x c : Operand) (hop : o.op = Op.makeSlice 30 x c) (base : Nat) (kl kc : IntKind) (n : Nat) (hl : a.eval x = .int kl (n : Int)) (hc : a.eval c = .int kc (n : Int)) (hn : n ≤ 1000000) (hbase : base ≤ w.heap.size)
    (h : ∀ w', Own base w' (.slice (some ⟨w.heap.size, 0, none⟩) n n) (List.replicate n 0) → w.grownBy w' none → K (a.put o.dst (.slice (some ⟨w.heap.size, 0, none⟩) n n)) w') : o.wp Try.prog a w K Q := by
  refine wp_make_row x c 5 30 (.int .u8 0) 1 info5 rfl Try.underlying30 hop base kl kc n hl hc (by omega) (by unfold maxLen; omega) hbase fun w' h1 h2 => h w' ⟨?_, ?_, ?_⟩ h2
  · rw [List.length_replicate]
    have e : bytesV (List.replicate n 0) = List.replicate n (.int .u8 0) := by unfold bytesV; rw [List.map_replicate]; rfl
    rw [e]; exact h1
  · intro y hy
    rw [(List.mem_replicate.1 hy).2]; decide
  · rw [List.length_replicate]; omega
end Go.Proofs.Ytbfpmpomcaijcaa
