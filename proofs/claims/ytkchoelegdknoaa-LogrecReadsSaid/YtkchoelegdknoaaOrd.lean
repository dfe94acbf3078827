/- A region that draws its order, walked operation by operation: each asks only for what the operations ahead of it, by the region's own edges, have left; what stands behind the region is asked for whatever they left. Conditions: each edge leads back; no two operations write one slot; what was left stays true while the others run. -/
import Derived.Orders
import Derived.Tactics
import Derived.KernelRfl
namespace Go.Proofs.Ytkchoelegdknoaa.Ord
variable {P : Program}

/-- The frame with what the operations left. -/
def fill : List Oper → (Nat → Value) → Nat → Act → Act
  | [], _, _, a => a
  | o :: r, xs, k, a => fill r xs (k + 1) (a.put o.dst (xs k))

theorem put_comm (a : Act) {d d' : Option Tmp} {u v : Value} (h : ∀ x, d = some x → d' ≠ some x) : (a.put d u).put d' v = (a.put d' v).put d u := by
  cases d with
  | none => rfl
  | some x =>
    cases d' with
    | none => rfl
    | some y =>
      have hxy : x ≠ y := fun e => h x rfl (by rw [e])
      show Act.mk _ _ = Act.mk _ _
      simp only [Act.put]
      rw [Array.setIfInBounds_comm _ _ hxy]

theorem put_put (a : Act) (d : Option Tmp) (u v : Value) : (a.put d u).put d v = a.put d v := by
  cases d with
  | none => rfl
  | some x => simp [Act.put]

theorem fill_put {d : Option Tmp} {v : Value} : ∀ (l : List Oper) (xs : Nat → Value) (k : Nat) (a : Act), (∀ o ∈ l, ∀ x, o.dst = some x → d ≠ some x) → (fill l xs k a).put d v = fill l xs k (a.put d v)
  | [], _, _, _, _ => rfl
  | o :: r, xs, k, a, h => by
    rw [fill, fill, fill_put r xs (k + 1) _ (fun o' ho' => h o' (List.mem_cons_of_mem _ ho')), put_comm a (h o (List.mem_cons_self ..))]

theorem fill_congr : ∀ (l : List Oper) (xs ys : Nat → Value) (k : Nat) (a : Act), (∀ j, k ≤ j → xs j = ys j) → fill l xs k a = fill l ys k a
  | [], _, _, _, _, _ => rfl
  | o :: r, xs, ys, k, a, h => by
    rw [fill, fill, h k (Nat.le_refl _), fill_congr r xs ys (k + 1) _ (fun j hj => h j (by omega))]

/-- No two of them write one slot. -/
def apart : List Oper → Bool
  | [] => true
  | o :: r => (match o.dst with | none => true | some x => r.all fun o' => o'.dst != some x) && apart r

def set (xs : Nat → Value) (i : Nat) (v : Value) : Nat → Value := fun j => if j = i then v else xs j

theorem fill_set : ∀ (l : List Oper) (xs : Nat → Value) (k i : Nat) (a : Act) (o : Oper) (v : Value), apart l = true → l[i]? = some o → (fill l xs k a).put o.dst v = fill l (set xs (k + i) v) k a
  | [], _, _, _, _, _, _, _, h => by simp at h
  | o' :: r, xs, k, i, a, o, v, hap, h => by
    simp only [apart, Bool.and_eq_true] at hap
    cases i with
    | zero =>
      obtain rfl : o' = o := by simpa using h
      rw [fill, fill_put r xs (k + 1) _ ?_, put_put, fill, fill_congr r xs (set xs (k + 0) v) (k + 1) _ (fun j hj => by unfold set; rw [if_neg (by omega)])]
      · congr 1
        unfold set
        rw [if_pos (by omega)]
      · intro o2 ho2 x hx hd
        have h1 := hap.1
        rw [hd] at h1
        have h2 := List.all_eq_true.1 h1 o2 ho2
        rw [hx] at h2
        simp at h2
    | succ i =>
      have h' : r[i]? = some o := by simpa using h
      rw [fill, fill_set r xs (k + 1) i _ o v hap.2 h', fill]
      have e1 : set xs (k + (i + 1)) v = set xs (k + 1 + i) v := by rw [show k + (i + 1) = k + 1 + i by omega]
      have e2 : set xs (k + (i + 1)) v k = xs k := by unfold set; rw [if_neg (by omega)]
      rw [e2, e1]

theorem put_same (a : Act) (d : Tmp) : a.put (some d) (a.tmps.getD d undef) = a := by
  obtain ⟨t, ds⟩ := a
  show Act.mk _ _ = Act.mk _ _
  congr 1
  apply Array.ext_getElem?
  intro i
  show (t.setIfInBounds d (t.getD d undef))[i]? = t[i]?
  by_cases h : d = i
  · subst h
    rcases Nat.lt_or_ge d t.size with hd | hd
    · rw [Array.getElem?_setIfInBounds_self_of_lt hd]
      simp [hd]
    · rw [Array.setIfInBounds, dif_neg (by omega)]
  · rw [Array.getElem?_setIfInBounds_ne h]

/-- What a slot held ahead of the region. -/
def first (a : Act) (o : Option Oper) : Value := match o.bind (·.dst) with | some d => a.tmps.getD d undef | none => undef

theorem fill_first : ∀ (l : List Oper) (xs : Nat → Value) (k : Nat) (a : Act), (∀ j, xs (k + j) = first a l[j]?) → fill l xs k a = a
  | [], _, _, _, _ => rfl
  | o :: r, xs, k, a, h => by
    have h0 : a.put o.dst (xs k) = a := by
      have := h 0
      rw [Nat.add_zero] at this
      rw [this]
      cases hd : o.dst with
      | none => rfl
      | some d => simp only [first, List.getElem?_cons_zero, Option.bind_some, hd]; exact put_same a d
    rw [fill, h0]
    refine fill_first r xs (k + 1) a fun j => ?_
    have := h (j + 1)
    rw [show k + 1 + j = k + (j + 1) by omega, this]
    simp [first]

/-- Each edge that binds leads back. -/
def back : List Oper → Nat → Bool
  | [], _ => true
  | o :: r, k => (o.after.toList.all fun e => !Region.binds .any e || decide (e.on < k)) && back r (k + 1)

theorem back_spec : ∀ (l : List Oper) (k i : Nat) (o : Oper), back l k = true → l[i]? = some o → ∀ e ∈ o.after, Region.binds .any e = true → e.on < k + i
  | [], _, _, _, _, h => by simp at h
  | o' :: r, k, i, o, hb, h => by
    simp only [back, Bool.and_eq_true] at hb
    cases i with
    | zero =>
      obtain rfl : o' = o := by simpa using h
      intro e he hbd
      have := List.all_eq_true.1 hb.1 e (by simpa using he)
      rw [hbd] at this
      simpa using this
    | succ i =>
      intro e he hbd
      have := back_spec r (k + 1) i o hb.2 (by simpa using h) e he hbd
      omega

/-- What the operations ahead have left. -/
def ahead (F : Nat → Value → World → Prop) (xs : Nat → Value) (w : World) : List Edge → Prop
  | [] => True
  | e :: es => F e.on (xs e.on) w ∧ ahead F xs w es

theorem ahead_of {F : Nat → Value → World → Prop} {xs : Nat → Value} {w : World} : ∀ (es : List Edge), (∀ e ∈ es, F e.on (xs e.on) w) → ahead F xs w es
  | [], _ => trivial
  | e :: es, h => ⟨h e (List.mem_cons_self ..), ahead_of es fun e' he' => h e' (List.mem_cons_of_mem _ he')⟩

/-- One operation. -/
def one (P : Program) (ops : Array Oper) (Q : Exit → Act → World → Prop) (o : Oper) (K : Act → World → Prop) (a : Act) (w : World) : Prop :=
  if Region.wanted o (yielded ops a.tmps) then o.wp P a w K Q ∨ (o.asks P a w ∧ LetsOut Q) else K (a.put o.dst undef) w

/-- The operations that are done, and one more. -/
def wth (D : Nat → Bool) (k : Nat) : Nat → Bool := fun j => if j = k then true else D j

/-- What is done has what it waits for done. -/
def closed (l : List Oper) (D : Nat → Bool) : Prop := ∀ j o, l[j]? = some o → D j = true → ∀ e ∈ o.after, Region.binds .any e = true → D e.on = true

/-- Does operation j wait for operation i? -/
def waits (l : List Oper) (j i : Nat) : Bool := match l[j]? with | some o => o.after.toList.any fun e => e.on == i && Region.binds .any e | none => false

theorem closed_at {l : List Oper} {D : Nat → Bool} (h : closed l D) (j i : Nat) (hw : waits l j i = true) (hj : D j = true) : D i = true := by
  unfold waits at hw
  split at hw
  · next o ho =>
    obtain ⟨e, he, h2⟩ := List.any_eq_true.1 hw
    simp only [Bool.and_eq_true, beq_iff_eq] at h2
    rw [← h2.1]
    exact h j o ho hj e (by simpa using he) h2.2
  · cases hw

/-- All of them, from number k on. -/
def each (P : Program) (ops : Array Oper) (Q : Exit → Act → World → Prop) (l0 : List Oper) (a0 : Act) (F : Nat → Value → World → Prop) (R : (Nat → Bool) → (Nat → Value) → World → Prop) (T : World → World → Prop) : Nat → List Oper → Prop
  | _, [] => True
  | k, o :: r => (∀ D xs w, D k = false → closed l0 D → (∀ e ∈ o.after, Region.binds .any e = true → D e.on = true) → R D xs w → ahead F xs w (o.after.toList.filter fun e => Region.binds .any e) → one P ops Q o (fun a' w' => ∃ v, a' = (fill l0 xs 0 a0).put o.dst v ∧ T w w' ∧ R (wth D k) (set xs k v) w' ∧ F k v w') (fill l0 xs 0 a0) w) ∧ each P ops Q l0 a0 F R T (k + 1) r

theorem each_spec {ops : Array Oper} {Q : Exit → Act → World → Prop} {l0 : List Oper} {a0 : Act} {F : Nat → Value → World → Prop} {R : (Nat → Bool) → (Nat → Value) → World → Prop} {T : World → World → Prop} :
    ∀ (l : List Oper) (k i : Nat) (o : Oper), each P ops Q l0 a0 F R T k l → l[i]? = some o → ∀ D xs w, D (k + i) = false → closed l0 D → (∀ e ∈ o.after, Region.binds .any e = true → D e.on = true) → R D xs w → ahead F xs w (o.after.toList.filter fun e => Region.binds .any e) →
      one P ops Q o (fun a' w' => ∃ v, a' = (fill l0 xs 0 a0).put o.dst v ∧ T w w' ∧ R (wth D (k + i)) (set xs (k + i) v) w' ∧ F (k + i) v w') (fill l0 xs 0 a0) w
  | [], _, _, _, _, h => by simp at h
  | o' :: r, k, i, o, he, h => by
    cases i with
    | zero =>
      obtain rfl : o' = o := by simpa using h
      exact he.1
    | succ i =>
      have := each_spec r (k + 1) i o he.2 (by simpa using h)
      rwa [show k + 1 + i = k + (i + 1) by omega] at this

/-- The order does not matter. -/
theorem any_of_each {l : List Oper} {Q : Exit → Act → World → Prop} {a0 : Act} {F : Nat → Value → World → Prop} {R : (Nat → Bool) → (Nat → Value) → World → Prop} {T : World → World → Prop} (hb : back l 0 = true) (hap : apart l = true)
    (hT : ∀ k v w w', T w w' → F k v w → F k v w') (he : each P l.toArray Q l a0 F R T 0 l)
    (hend : ∀ D xs w, R D xs w → (∀ k, k < l.length → D k = true ∧ F k (xs k) w) → Q .normal (fill l xs 0 a0) w) :
    ∀ (fuel : Nat) (listed : Array Bool) (xs : Nat → Value) (w : World), listed.size = l.length → listed.toList.count false = fuel → closed l (fun k => listed.getD k false) → R (fun k => listed.getD k false) xs w → (∀ k, listed.getD k false = true → F k (xs k) w) →
      wpAny P .any l.toArray Q fuel listed (fill l xs 0 a0) w
  | 0, listed, xs, w, hsz, hc, hC, hR, hF => by
    have hall : ∀ k, k < l.length → listed.getD k false = true := by
      intro k hk
      cases h : listed.getD k false with
      | true => rfl
      | false =>
        have hlt : k < listed.size := by omega
        have : listed[k] = false := by simpa [hlt] using h
        have hm : false ∈ listed.toList := by rw [← this]; simp
        exact absurd hc (by have := List.count_pos_iff.2 hm; omega)
    refine ⟨?_, hend _ xs w hR fun k hk => ⟨hall k hk, hF k (hall k hk)⟩⟩
    refine List.eq_nil_iff_forall_not_mem.2 fun i hi => ?_
    obtain ⟨hun, o, ho, -⟩ := mem_ready.1 hi
    have hil : i < l.length := by simpa using (Array.getElem?_eq_some_iff.1 ho).1
    have := hall i hil
    have h2 : listed.getD i true = true := by
      have hlt : i < listed.size := by omega
      simpa [hlt] using this
    rw [h2] at hun; cases hun
  | fuel + 1, listed, xs, w, hsz, hc, hC, hR, hF => by
    refine ⟨fun h0 => ?_, fun i hi => ?_⟩
    · -- some operation is not listed: the first such one is ready
      exfalso
      have hm : false ∈ listed.toList := List.count_pos_iff.1 (by omega)
      obtain ⟨j, hj, hjf⟩ := List.getElem_of_mem hm
      have hex : ∃ n, n < l.length ∧ listed.getD n true = false ∧ ∀ m, m < n → listed.getD m false = true := by
        have hP : ∀ n, (n < l.length ∧ listed.getD n true = false) → ∃ n, n < l.length ∧ listed.getD n true = false ∧ ∀ m, m < n → listed.getD m false = true := by
          intro n
          induction n using Nat.strongRecOn with
          | _ n ih =>
            intro ⟨hn1, hn2⟩
            by_cases hall : ∀ m, m < n → listed.getD m false = true
            · exact ⟨n, hn1, hn2, hall⟩
            · simp only [Classical.not_forall] at hall
              obtain ⟨m, hm1, hm2⟩ := hall
              have hlt : m < listed.size := by omega
              refine ih m hm1 ⟨by omega, ?_⟩
              simpa [hlt] using hm2
        refine hP j ⟨by simpa [hsz] using hj, ?_⟩
        have hlt : j < listed.size := by simpa using hj
        simpa [hlt] using hjf
      obtain ⟨n, hn1, hn2, hn3⟩ := hex
      have ho : l.toArray[n]? = some l[n] := by simp [hn1]
      have hr : n ∈ Region.ready .any l.toArray listed := mem_ready.2 ⟨hn2, _, ho, fun e hem hbd => hn3 _ (by have := back_spec l 0 n _ hb (by simp [hn1]) e hem hbd; omega)⟩
      rw [h0] at hr; cases hr
    · obtain ⟨hun, o, ho, hall⟩ := mem_ready.1 hi
      have hol : l[i]? = some o := by simpa using ho
      have hil : i < l.length := by
        rcases Nat.lt_or_ge i l.length with h | h
        · exact h
        · rw [List.getElem?_eq_none h] at hol; cases hol
      have hif : listed.getD i false = false := by
        have hlt : i < listed.size := by omega
        simpa [hlt] using hun
      have hone := each_spec l 0 i o he hol (fun k => listed.getD k false) xs w (by rw [Nat.zero_add]; exact hif) hC hall hR (ahead_of _ fun e hem => by obtain ⟨h1, h2⟩ := List.mem_filter.1 hem; exact hF _ (hall e (by simpa using h1) h2))
      have hop : wpOp P l.toArray Q i (fun a' w' => ∃ v, a' = (fill l xs 0 a0).put o.dst v ∧ T w w' ∧ R (wth (fun k => listed.getD k false) (0 + i)) (set xs (0 + i) v) w' ∧ F (0 + i) v w') (fill l xs 0 a0) w := by
        unfold wpOp
        simp only [ho]
        exact hone
      refine wpOp_mono (fun a' w' h => ?_) hop
      obtain ⟨v, rfl, hTw, hR', hFv⟩ := h
      rw [fill_set l xs 0 i a0 o v hap hol]
      refine any_of_each hb hap hT he hend fuel (listed.setIfInBounds i true) (set xs (0 + i) v) w' (by simpa using hsz) ?_ ?_ ?_ fun k hk => ?_
      · have hlt : i < listed.size := by omega
        have hif : listed[i] = false := by simpa [hlt] using hun
        have hcs : (listed.toList.set i true).count false + 1 = listed.toList.count false := by
          have hm : false ∈ listed.toList := by rw [← hif]; simp
          have := List.count_pos_iff.2 hm
          rw [List.count_set (by simpa using hlt), if_pos (by simp [hif]), if_neg (by decide)]
          omega
        have hg : (listed.setIfInBounds i true).toList.count false + 1 = listed.toList.count false := by
          rw [Array.toList_setIfInBounds]; exact hcs
        rw [hc] at hg
        exact Nat.succ.inj hg
      · intro j o' ho' hj e he hbnd
        by_cases hij : i = j
        · subst hij
          obtain rfl : o = o' := Option.some.inj (hol.symm.trans ho')
          exact getD_set_true (hall e he hbnd)
        · have hj' : listed.getD j false = true := by rw [← getD_set_ne (i := i) (j := j) false hij]; exact hj
          exact getD_set_true (hC j o' ho' hj' e he hbnd)
      · have hD : (fun k => (listed.setIfInBounds i true).getD k false) = wth (fun k => listed.getD k false) (0 + i) := by
          funext k
          unfold wth
          have hlt : i < listed.size := by omega
          by_cases hki : k = 0 + i
          · rw [if_pos hki, hki, Nat.zero_add]; simp [hlt]
          · rw [if_neg hki, getD_set_ne (i := i) (j := k) false (by omega)]
        rw [hD]; exact hR'
      · unfold set
        by_cases hki : k = 0 + i
        · rw [if_pos hki, hki]; exact hFv
        · rw [if_neg hki]
          exact hT k _ w w' hTw (hF k (by rw [getD_set_ne (i := i) (j := k) false (by omega)] at hk; exact hk))

/-- A REGION THAT DRAWS ITS ORDER; what its slots held ahead of it is known. -/
theorem regionF {id : Nat} {l : List Oper} {Q : Exit → Act → World → Prop} {a : Act} {w : World} (F : Nat → Value → World → Prop) (R : (Nat → Bool) → (Nat → Value) → World → Prop) (T : World → World → Prop)
    (hm : P.follows .mixedOrders = true) (hb : (back l 0 && apart l) = true) (hT : ∀ k v w w', T w w' → F k v w → F k v w') (hR : R (fun _ => false) (fun k => first a l[k]?) { w with drawn := w.drawn + 1 })
    (he : each P l.toArray Q l a F R T 0 l) (hend : ∀ D xs w, R D xs w → (∀ k, k < l.length → D k = true ∧ F k (xs k) w) → Q .normal (fill l xs 0 a) w) : (Code.region id l.toArray true).wp P Q a w := by
  rw [Bool.and_eq_true] at hb
  refine wp_region_any hm ?_
  have hf := fill_first l (fun k => first a l[k]?) 0 a (fun j => by rw [Nat.zero_add])
  have := any_of_each hb.1 hb.2 hT he hend l.toArray.size (Array.replicate l.toArray.size false) (fun k => first a l[k]?) { w with drawn := w.drawn + 1 } (by simp) (by simp) (fun j o _ hj => by simp [Array.getElem?_replicate] at hj; split at hj <;> simp at hj) (by
    have hD : (fun k => (Array.replicate l.toArray.size false).getD k false) = fun _ => false := by
      funext k
      simp only [Array.getD_eq_getD_getElem?, Array.getElem?_replicate]
      split <;> rfl
    rw [hD]; exact hR) (fun k hk => by simp [Array.getElem?_replicate] at hk; split at hk <;> simp at hk)
  rwa [hf] at this

/-- A REGION THAT DRAWS ITS ORDER. -/
theorem region {id : Nat} {l : List Oper} {Q : Exit → Act → World → Prop} {a : Act} {w : World} (F : Nat → Value → World → Prop) (R : (Nat → Bool) → (Nat → Value) → World → Prop) (T : World → World → Prop)
    (hm : P.follows .mixedOrders = true) (hb : (back l 0 && apart l) = true) (hT : ∀ k v w w', T w w' → F k v w → F k v w') (hR : ∀ xs, R (fun _ => false) xs { w with drawn := w.drawn + 1 })
    (he : each P l.toArray Q l a F R T 0 l) (hend : ∀ D xs w, R D xs w → (∀ k, k < l.length → D k = true ∧ F k (xs k) w) → Q .normal (fill l xs 0 a) w) : (Code.region id l.toArray true).wp P Q a w :=
  regionF F R T hm hb hT (hR _) he hend

/-- The same, the frame that they leave written out. -/
def eachL (P : Program) (ops : Array Oper) (Q : Exit → Act → World → Prop) (l0 : List Oper) (fr : (Nat → Value) → Act) (F : Nat → Value → World → Prop) (R : (Nat → Bool) → (Nat → Value) → World → Prop) (T : World → World → Prop) : Nat → List Oper → Prop
  | _, [] => True
  | k, o :: r => (∀ D xs w, D k = false → closed l0 D → (∀ e ∈ o.after, Region.binds .any e = true → D e.on = true) → R D xs w → ahead F xs w (o.after.toList.filter fun e => Region.binds .any e) → ∀ K : Act → World → Prop, (∀ a' w', (∃ v, a' = (fr xs).put o.dst v ∧ T w w' ∧ R (wth D k) (set xs k v) w' ∧ F k v w') → K a' w') →
      if Region.wanted o (yielded ops (fr xs).tmps) then o.wp P (fr xs) w K Q else K ((fr xs).put o.dst undef) w) ∧ eachL P ops Q l0 fr F R T (k + 1) r

theorem each_of {ops : Array Oper} {Q : Exit → Act → World → Prop} {l0 : List Oper} {a0 : Act} {fr : (Nat → Value) → Act} {F : Nat → Value → World → Prop} {R : (Nat → Bool) → (Nat → Value) → World → Prop} {T : World → World → Prop} (hfr : ∀ xs, fill l0 xs 0 a0 = fr xs) :
    ∀ (k : Nat) (l : List Oper), eachL P ops Q l0 fr F R T k l → each P ops Q l0 a0 F R T k l
  | _, [], _ => trivial
  | k, o :: r, h => ⟨fun D xs w hD hC hP hR hA => by
      rw [hfr xs]
      have h1 := h.1 D xs w hD hC hP hR hA _ fun _ _ h => h
      unfold one
      split
      · next hw => rw [if_pos hw] at h1; exact Or.inl h1
      · next hw => rw [if_neg hw] at h1; exact h1, each_of hfr (k + 1) r h.2⟩

theorem each_nil {ops : Array Oper} {Q : Exit → Act → World → Prop} {l0 : List Oper} {fr : (Nat → Value) → Act} {F : Nat → Value → World → Prop} {R : (Nat → Bool) → (Nat → Value) → World → Prop} {T : World → World → Prop} {k : Nat} : eachL P ops Q l0 fr F R T k [] := trivial

/-- One operation more. -/
theorem each_cons {ops : Array Oper} {Q : Exit → Act → World → Prop} {l0 : List Oper} {fr : (Nat → Value) → Act} {F : Nat → Value → World → Prop} {R : (Nat → Bool) → (Nat → Value) → World → Prop} {T : World → World → Prop} {k : Nat} {o : Oper} {r : List Oper}
    (h : ∀ D xs w, D k = false → closed l0 D → (∀ e ∈ o.after, Region.binds .any e = true → D e.on = true) → R D xs w → ahead F xs w (o.after.toList.filter fun e => Region.binds .any e) → ∀ K : Act → World → Prop, (∀ a' w', (∃ v, a' = (fr xs).put o.dst v ∧ T w w' ∧ R (wth D k) (set xs k v) w' ∧ F k v w') → K a' w') →
      if Region.wanted o (yielded ops (fr xs).tmps) then o.wp P (fr xs) w K Q else K ((fr xs).put o.dst undef) w)
    (hr : eachL P ops Q l0 fr F R T (k + 1) r) : eachL P ops Q l0 fr F R T k (o :: r) := ⟨h, hr⟩

/-- A REGION THAT DRAWS ITS ORDER, the frame written out. -/
theorem walk {id : Nat} {l : List Oper} {Q : Exit → Act → World → Prop} {a : Act} {w : World} (F : Nat → Value → World → Prop) (R : (Nat → Bool) → (Nat → Value) → World → Prop) (T : World → World → Prop)
    (hm : P.follows .mixedOrders = true) (hb : (back l 0 && apart l) = true) (fr : (Nat → Value) → Act) (hfr : ∀ xs, fill l xs 0 a = fr xs) (hT : ∀ k v w w', T w w' → F k v w → F k v w') (hR : ∀ xs, R (fun _ => false) xs w.drew)
    (he : eachL P l.toArray Q l fr F R T 0 l) (hend : ∀ D xs w, R D xs w → (∀ k, k < l.length → D k = true ∧ F k (xs k) w) → Q .normal (fr xs) w) : (Code.region id l.toArray true).wp P Q a w :=
  region F R T hm hb hT hR (each_of hfr 0 l he) fun D xs w h1 h2 => by rw [hfr xs]; exact hend D xs w h1 h2

/-- The same, what the slots held ahead of the region being known. -/
theorem walkF {id : Nat} {l : List Oper} {Q : Exit → Act → World → Prop} {a : Act} {w : World} (F : Nat → Value → World → Prop) (R : (Nat → Bool) → (Nat → Value) → World → Prop) (T : World → World → Prop)
    (hm : P.follows .mixedOrders = true) (hb : (back l 0 && apart l) = true) (fr : (Nat → Value) → Act) (hfr : ∀ xs, fill l xs 0 a = fr xs) (hT : ∀ k v w w', T w w' → F k v w → F k v w') (hR : ∀ xs, (∀ k, xs k = first a l[k]?) → R (fun _ => false) xs w.drew)
    (he : eachL P l.toArray Q l fr F R T 0 l) (hend : ∀ D xs w, R D xs w → (∀ k, k < l.length → D k = true ∧ F k (xs k) w) → Q .normal (fr xs) w) : (Code.region id l.toArray true).wp P Q a w :=
  regionF F R T hm hb hT (hR _ fun _ => rfl) (each_of hfr 0 l he) fun D xs w h1 h2 => by rw [hfr xs]; exact hend D xs w h1 h2

/-- What one of the operations ahead has left. -/
theorem ahead_get {F : Nat → Value → World → Prop} {xs : Nat → Value} {w : World} : ∀ (es : List Edge), ahead F xs w es → ∀ j, (es.any fun e => e.on == j) = true → F j (xs j) w
  | [], _, _, h => by simp at h
  | e :: es, ha, j, h => by
    simp only [List.any_cons, Bool.or_eq_true, beq_iff_eq] at h
    rcases h with h | h
    · subst h; exact ha.1
    · exact ahead_get es ha.2 j h
end Go.Proofs.Ytkchoelegdknoaa.Ord
