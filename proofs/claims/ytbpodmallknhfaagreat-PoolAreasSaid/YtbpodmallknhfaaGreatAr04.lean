/- Parts of a proof. Conditions: as each row says. -/
import Derived.Test.YtbpodmallknhfaaGreatAr03
import Derived.OrdersIn
namespace Go.Proofs.YtbpodmallknhfaaGreat.Ord.In
variable {P : Program} {F0 : Fence} {nF : Nat}
def one (F0 : Fence) (nF : Nat) (P : Program) (ops : Array Oper) (Q : Exit → Act → World → Prop) (o : Oper) (K : Act → World → Prop) (a : Act) (w : World) : Prop :=
  if Region.wanted o (yielded ops a.tmps) then o.wpIn F0 nF P a w K Q else K (a.put o.dst undef) w
def each (F0 : Fence) (nF : Nat) (P : Program) (ops : Array Oper) (Q : Exit → Act → World → Prop) (l0 : List Oper) (a0 : Act) (F : Nat → Value → World → Prop) (R : (Nat → Bool) → (Nat → Value) → World → Prop) (T : World → World → Prop) : Nat → List Oper → Prop
  | _, [] => True
  | k, o :: r => (∀ D xs w, D k = false → closed l0 D → (∀ e ∈ o.after, Region.binds .any e = true → D e.on = true) → R D xs w → ahead F xs w (o.after.toList.filter fun e => Region.binds .any e) → one F0 nF P ops Q o (fun a' w' => ∃ v, a' = (fill l0 xs 0 a0).put o.dst v ∧ T w w' ∧ R (wth D k) (set xs k v) w' ∧ F k v w') (fill l0 xs 0 a0) w) ∧ each F0 nF P ops Q l0 a0 F R T (k + 1) r
theorem each_spec {ops : Array Oper} {Q : Exit → Act → World → Prop} {l0 : List Oper} {a0 : Act} {F : Nat → Value → World → Prop} {R : (Nat → Bool) → (Nat → Value) → World → Prop} {T : World → World → Prop} :
    ∀ (l : List Oper) (k i : Nat) (o : Oper), each F0 nF P ops Q l0 a0 F R T k l → l[i]? = some o → ∀ D xs w, D (k + i) = false → closed l0 D → (∀ e ∈ o.after, Region.binds .any e = true → D e.on = true) → R D xs w → ahead F xs w (o.after.toList.filter fun e => Region.binds .any e) →
      one F0 nF P ops Q o (fun a' w' => ∃ v, a' = (fill l0 xs 0 a0).put o.dst v ∧ T w w' ∧ R (wth D (k + i)) (set xs (k + i) v) w' ∧ F (k + i) v w') (fill l0 xs 0 a0) w
  | [], _, _, _, _, h => by simp at h
  | o' :: r, k, i, o, he, h => by
    cases i with
    | zero =>
      obtain rfl : o' = o := by simpa using h
      exact he.1
    | succ i =>
      have := each_spec r (k + 1) i o he.2 (by simpa using h)
      rwa [show k + 1 + i = k + (i + 1) by omega] at this
theorem any_of_each (hfn : ∀ f, F0.fn f) {l : List Oper} {Q : Exit → Act → World → Prop} {a0 : Act} {F : Nat → Value → World → Prop} {R : (Nat → Bool) → (Nat → Value) → World → Prop} {T : World → World → Prop} (hb : back l 0 = true) (hap : apart l = true)
    (hT : ∀ k v w w', T w w' → F k v w → F k v w') (he : each F0 nF P l.toArray Q l a0 F R T 0 l)
    (hend : ∀ D xs w, R D xs w → (∀ k, k < l.length → D k = true ∧ F k (xs k) w) → Q .normal (fill l xs 0 a0) w) :
    ∀ (fuel : Nat) (listed : Array Bool) (xs : Nat → Value) (w : World), listed.size = l.length → listed.toList.count false = fuel → closed l (fun k => listed.getD k false) → R (fun k => listed.getD k false) xs w → (∀ k, listed.getD k false = true → F k (xs k) w) →
      wpAnyIn F0 nF P .any l.toArray Q fuel listed (fill l xs 0 a0) w
  | 0, listed, xs, w, hsz, hc, hC, hR, hF => by
    have hall : ∀ k, k < l.length → listed.getD k false = true := by
      intro k hk
      cases h : listed.getD k false with
      | true => rfl
      | false =>
        have hlt : k < listed.size := by omega
        have : listed[k] = false := by simpa [hlt] using h
        have hm : false ∈ listed.toList := by rw [← this]; simp
        exact absurd hc (by have := List.count_pos_iff.2 hm; omega)
    refine ⟨?_, hend _ xs w hR fun k hk => ⟨hall k hk, hF k (hall k hk)⟩⟩
    refine List.eq_nil_iff_forall_not_mem.2 fun i hi => ?_
    obtain ⟨hun, o, ho, -⟩ := mem_ready.1 hi
    have hil : i < l.length := by simpa using (Array.getElem?_eq_some_iff.1 ho).1
    have := hall i hil
    have h2 : listed.getD i true = true := by
      have hlt : i < listed.size := by omega
      simpa [hlt] using this
    rw [h2] at hun; cases hun
  | fuel + 1, listed, xs, w, hsz, hc, hC, hR, hF => by
    refine ⟨fun h0 => ?_, fun i hi => ?_⟩
    ·
      exfalso
      have hm : false ∈ listed.toList := List.count_pos_iff.1 (by omega)
      obtain ⟨j, hj, hjf⟩ := List.getElem_of_mem hm
      have hex : ∃ n, n < l.length ∧ listed.getD n true = false ∧ ∀ m, m < n → listed.getD m false = true := by
        have hP : ∀ n, (n < l.length ∧ listed.getD n true = false) → ∃ n, n < l.length ∧ listed.getD n true = false ∧ ∀ m, m < n → listed.getD m false = true := by
          intro n
          induction n using Nat.strongRecOn with
          | _ n ih =>
            intro ⟨hn1, hn2⟩
            by_cases hall : ∀ m, m < n → listed.getD m false = true
            · exact ⟨n, hn1, hn2, hall⟩
            · simp only [Classical.not_forall] at hall
              obtain ⟨m, hm1, hm2⟩ := hall
              have hlt : m < listed.size := by omega
              refine ih m hm1 ⟨by omega, ?_⟩
              simpa [hlt] using hm2
        refine hP j ⟨by simpa [hsz] using hj, ?_⟩
        have hlt : j < listed.size := by simpa using hj
        simpa [hlt] using hjf
      obtain ⟨n, hn1, hn2, hn3⟩ := hex
      have ho : l.toArray[n]? = some l[n] := by simp [hn1]
      have hr : n ∈ Region.ready .any l.toArray listed := mem_ready.2 ⟨hn2, _, ho, fun e hem hbd => hn3 _ (by have := back_spec l 0 n _ hb (by simp [hn1]) e hem hbd; omega)⟩
      rw [h0] at hr; cases hr
    · obtain ⟨hun, o, ho, hall⟩ := mem_ready.1 hi
      have hol : l[i]? = some o := by simpa using ho
      have hil : i < l.length := by
        rcases Nat.lt_or_ge i l.length with h | h
        · exact h
        · rw [List.getElem?_eq_none h] at hol; cases hol
      have hif : listed.getD i false = false := by
        have hlt : i < listed.size := by omega
        simpa [hlt] using hun
      have hone := each_spec l 0 i o he hol (fun k => listed.getD k false) xs w (by rw [Nat.zero_add]; exact hif) hC hall hR (ahead_of _ fun e hem => by obtain ⟨h1, h2⟩ := List.mem_filter.1 hem; exact hF _ (hall e (by simpa using h1) h2))
      have hop : wpOpIn F0 nF P l.toArray Q i (fun a' w' => ∃ v, a' = (fill l xs 0 a0).put o.dst v ∧ T w w' ∧ R (wth (fun k => listed.getD k false) (0 + i)) (set xs (0 + i) v) w' ∧ F (0 + i) v w') (fill l xs 0 a0) w := by
        unfold wpOpIn
        simp only [ho]
        unfold one at hone
        split
        · next hwa => rw [if_pos hwa] at hone; exact hone
        · next hwa => rw [if_neg hwa] at hone; exact ⟨fun f _ => hfn f, hone⟩
      refine wpOpIn_mono (fun a' w' h => ?_) hop
      obtain ⟨v, rfl, hTw, hR', hFv⟩ := h
      rw [fill_set l xs 0 i a0 o v hap hol]
      refine any_of_each hfn hb hap hT he hend fuel (listed.setIfInBounds i true) (set xs (0 + i) v) w' (by simpa using hsz) ?_ ?_ ?_ fun k hk => ?_
      · have hlt : i < listed.size := by omega
        have hif : listed[i] = false := by simpa [hlt] using hun
        have hcs : (listed.toList.set i true).count false + 1 = listed.toList.count false := by
          have hm : false ∈ listed.toList := by rw [← hif]; simp
          have := List.count_pos_iff.2 hm
          rw [List.count_set (by simpa using hlt), if_pos (by simp [hif]), if_neg (by decide)]
          omega
        have hg : (listed.setIfInBounds i true).toList.count false + 1 = listed.toList.count false := by
          rw [Array.toList_setIfInBounds]; exact hcs
        rw [hc] at hg
        exact Nat.succ.inj hg
      · intro j o' ho' hj e he hbnd
        by_cases hij : i = j
        · subst hij
          obtain rfl : o = o' := Option.some.inj (hol.symm.trans ho')
          exact getD_set_true (hall e he hbnd)
        · have hj' : listed.getD j false = true := by rw [← getD_set_ne (i := i) (j := j) false hij]; exact hj
          exact getD_set_true (hC j o' ho' hj' e he hbnd)
      · have hD : (fun k => (listed.setIfInBounds i true).getD k false) = wth (fun k => listed.getD k false) (0 + i) := by
          funext k
          unfold wth
          have hlt : i < listed.size := by omega
          by_cases hki : k = 0 + i
          · rw [if_pos hki, hki, Nat.zero_add]; simp [hlt]
          · rw [if_neg hki, getD_set_ne (i := i) (j := k) false (by omega)]
        rw [hD]; exact hR'
      · unfold set
        by_cases hki : k = 0 + i
        · rw [if_pos hki, hki]; exact hFv
        · rw [if_neg hki]
          exact hT k _ w w' hTw (hF k (by rw [getD_set_ne (i := i) (j := k) false (by omega)] at hk; exact hk))
theorem regionF (hfn : ∀ f, F0.fn f) {id : Nat} {l : List Oper} {Q : Exit → Act → World → Prop} {a : Act} {w : World} (F : Nat → Value → World → Prop) (R : (Nat → Bool) → (Nat → Value) → World → Prop) (T : World → World → Prop)
    (hm : P.follows .mixedOrders = true) (hb : (back l 0 && apart l) = true) (hT : ∀ k v w w', T w w' → F k v w → F k v w') (hR : R (fun _ => false) (fun k => first a l[k]?) { w with drawn := w.drawn + 1 })
    (he : each F0 nF P l.toArray Q l a F R T 0 l) (hend : ∀ D xs w, R D xs w → (∀ k, k < l.length → D k = true ∧ F k (xs k) w) → Q .normal (fill l xs 0 a) w) : (Code.region id l.toArray true).wpIn F0 nF P Q a w := by
  rw [Bool.and_eq_true] at hb
  refine wpIn_region_any hm ?_
  have hf := fill_first l (fun k => first a l[k]?) 0 a (fun j => by rw [Nat.zero_add])
  have := any_of_each hfn hb.1 hb.2 hT he hend l.toArray.size (Array.replicate l.toArray.size false) (fun k => first a l[k]?) { w with drawn := w.drawn + 1 } (by simp) (by simp) (fun j o _ hj => by simp [Array.getElem?_replicate] at hj; split at hj <;> simp at hj) (by
    have hD : (fun k => (Array.replicate l.toArray.size false).getD k false) = fun _ => false := by
      funext k
      simp only [Array.getD_eq_getD_getElem?, Array.getElem?_replicate]
      split <;> rfl
    rw [hD]; exact hR) (fun k hk => by simp [Array.getElem?_replicate] at hk; split at hk <;> simp at hk)
  rwa [hf] at this
theorem region (hfn : ∀ f, F0.fn f) {id : Nat} {l : List Oper} {Q : Exit → Act → World → Prop} {a : Act} {w : World} (F : Nat → Value → World → Prop) (R : (Nat → Bool) → (Nat → Value) → World → Prop) (T : World → World → Prop)
    (hm : P.follows .mixedOrders = true) (hb : (back l 0 && apart l) = true) (hT : ∀ k v w w', T w w' → F k v w → F k v w') (hR : ∀ xs, R (fun _ => false) xs { w with drawn := w.drawn + 1 })
    (he : each F0 nF P l.toArray Q l a F R T 0 l) (hend : ∀ D xs w, R D xs w → (∀ k, k < l.length → D k = true ∧ F k (xs k) w) → Q .normal (fill l xs 0 a) w) : (Code.region id l.toArray true).wpIn F0 nF P Q a w :=
  regionF hfn F R T hm hb hT (hR _) he hend
def eachL (F0 : Fence) (nF : Nat) (P : Program) (ops : Array Oper) (Q : Exit → Act → World → Prop) (l0 : List Oper) (fr : (Nat → Value) → Act) (F : Nat → Value → World → Prop) (R : (Nat → Bool) → (Nat → Value) → World → Prop) (T : World → World → Prop) : Nat → List Oper → Prop
  | _, [] => True
  | k, o :: r => (∀ D xs w, D k = false → closed l0 D → (∀ e ∈ o.after, Region.binds .any e = true → D e.on = true) → R D xs w → ahead F xs w (o.after.toList.filter fun e => Region.binds .any e) → ∀ K : Act → World → Prop, (∀ a' w', (∃ v, a' = (fr xs).put o.dst v ∧ T w w' ∧ R (wth D k) (set xs k v) w' ∧ F k v w') → K a' w') →
      if Region.wanted o (yielded ops (fr xs).tmps) then o.wpIn F0 nF P (fr xs) w K Q else K ((fr xs).put o.dst undef) w) ∧ eachL F0 nF P ops Q l0 fr F R T (k + 1) r
theorem each_of {ops : Array Oper} {Q : Exit → Act → World → Prop} {l0 : List Oper} {a0 : Act} {fr : (Nat → Value) → Act} {F : Nat → Value → World → Prop} {R : (Nat → Bool) → (Nat → Value) → World → Prop} {T : World → World → Prop} (hfr : ∀ xs, fill l0 xs 0 a0 = fr xs) :
    ∀ (k : Nat) (l : List Oper), eachL F0 nF P ops Q l0 fr F R T k l → each F0 nF P ops Q l0 a0 F R T k l
  | _, [], _ => trivial
  | k, o :: r, h => ⟨fun D xs w hD hC hP hR hA => by
      rw [hfr xs]
      have h1 := h.1 D xs w hD hC hP hR hA _ fun _ _ h => h
      unfold one
      split
      · next hw => rw [if_pos hw] at h1; exact h1
      · next hw => rw [if_neg hw] at h1; exact h1, each_of hfr (k + 1) r h.2⟩
theorem each_nil {ops : Array Oper} {Q : Exit → Act → World → Prop} {l0 : List Oper} {fr : (Nat → Value) → Act} {F : Nat → Value → World → Prop} {R : (Nat → Bool) → (Nat → Value) → World → Prop} {T : World → World → Prop} {k : Nat} : eachL F0 nF P ops Q l0 fr F R T k [] := trivial
theorem each_cons {ops : Array Oper} {Q : Exit → Act → World → Prop} {l0 : List Oper} {fr : (Nat → Value) → Act} {F : Nat → Value → World → Prop} {R : (Nat → Bool) → (Nat → Value) → World → Prop} {T : World → World → Prop} {k : Nat} {o : Oper} {r : List Oper}
    (h : ∀ D xs w, D k = false → closed l0 D → (∀ e ∈ o.after, Region.binds .any e = true → D e.on = true) → R D xs w → ahead F xs w (o.after.toList.filter fun e => Region.binds .any e) → ∀ K : Act → World → Prop, (∀ a' w', (∃ v, a' = (fr xs).put o.dst v ∧ T w w' ∧ R (wth D k) (set xs k v) w' ∧ F k v w') → K a' w') →
      if Region.wanted o (yielded ops (fr xs).tmps) then o.wpIn F0 nF P (fr xs) w K Q else K ((fr xs).put o.dst undef) w)
    (hr : eachL F0 nF P ops Q l0 fr F R T (k + 1) r) : eachL F0 nF P ops Q l0 fr F R T k (o :: r) := ⟨h, hr⟩
theorem walk (hfn : ∀ f, F0.fn f) {id : Nat} {l : List Oper} {Q : Exit → Act → World → Prop} {a : Act} {w : World} (F : Nat → Value → World → Prop) (R : (Nat → Bool) → (Nat → Value) → World → Prop) (T : World → World → Prop)
    (hm : P.follows .mixedOrders = true) (hb : (back l 0 && apart l) = true) (fr : (Nat → Value) → Act) (hfr : ∀ xs, fill l xs 0 a = fr xs) (hT : ∀ k v w w', T w w' → F k v w → F k v w') (hR : ∀ xs, R (fun _ => false) xs w.drew)
    (he : eachL F0 nF P l.toArray Q l fr F R T 0 l) (hend : ∀ D xs w, R D xs w → (∀ k, k < l.length → D k = true ∧ F k (xs k) w) → Q .normal (fr xs) w) : (Code.region id l.toArray true).wpIn F0 nF P Q a w :=
  region hfn F R T hm hb hT hR (each_of hfr 0 l he) fun D xs w h1 h2 => by rw [hfr xs]; exact hend D xs w h1 h2
theorem walkF (hfn : ∀ f, F0.fn f) {id : Nat} {l : List Oper} {Q : Exit → Act → World → Prop} {a : Act} {w : World} (F : Nat → Value → World → Prop) (R : (Nat → Bool) → (Nat → Value) → World → Prop) (T : World → World → Prop)
    (hm : P.follows .mixedOrders = true) (hb : (back l 0 && apart l) = true) (fr : (Nat → Value) → Act) (hfr : ∀ xs, fill l xs 0 a = fr xs) (hT : ∀ k v w w', T w w' → F k v w → F k v w') (hR : ∀ xs, (∀ k, xs k = first a l[k]?) → R (fun _ => false) xs w.drew)
    (he : eachL F0 nF P l.toArray Q l fr F R T 0 l) (hend : ∀ D xs w, R D xs w → (∀ k, k < l.length → D k = true ∧ F k (xs k) w) → Q .normal (fr xs) w) : (Code.region id l.toArray true).wpIn F0 nF P Q a w :=
  regionF hfn F R T hm hb hT (hR _ fun _ => rfl) (each_of hfr 0 l he) fun D xs w h1 h2 => by rw [hfr xs]; exact hend D xs w h1 h2
end Go.Proofs.YtbpodmallknhfaaGreat.Ord.In
