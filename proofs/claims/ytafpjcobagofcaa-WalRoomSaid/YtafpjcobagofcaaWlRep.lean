/- Where the bytes of a log stand on a device, plainly: halves of sectors with their headers, and two sectors that say what is known. Conditions: none. -/
import Derived.Test.YtafpjcobagofcaaWlBase
import Derived.Test.YtafpjcobagofcaaDkM
namespace Go.Proofs.Ytafpjcobagofcaa.Wl
open Go.Proofs.Ytafpjcobagofcaa

def bytes (s : S) : List Nat := s.recs.flatMap Lr.form
def byteAt (s : S) (p : Nat) : Nat := (bytes s).getD (p - s.start) 0
theorem flat_length : ∀ {l : List Lr.R} {p q : Nat}, chain p l q → p + (l.flatMap Lr.form).length = q
  | [], _, _, h => h
  | x :: l, p, q, h => by
    have := flat_length h.2
    rw [List.flatMap_cons, List.length_append]
    unfold size at this
    omega
theorem bytes_length {s : S} (h : Good s) : s.start + (bytes s).length = s.stop := flat_length h.chain
def plc (l : List Lr.R) (q k : Nat) : Nat := match l[k]? with
  | some x => x.lsn
  | none => q
theorem placeOf_eq (s : S) (k : Nat) : placeOf s k = plc s.recs s.stop k := rfl
theorem chain_split : ∀ {l : List Lr.R} {p q : Nat}, chain p l q → ∀ k, k ≤ l.length → chain p (l.take k) (plc l q k) ∧ chain (plc l q k) (l.drop k) q
  | [], p, q, h, k, hk => by
    obtain rfl : k = 0 := by simpa using hk
    exact ⟨h, rfl⟩
  | x :: l, p, q, h, 0, _ => ⟨(h.1).symm, rfl, by show chain (x.lsn + size x) l q; rw [h.1]; exact h.2⟩
  | x :: l, p, q, h, k + 1, hk => by
    have ih := chain_split h.2 k (by simpa using hk)
    have e : plc (x :: l) q (k + 1) = plc l q k := by unfold plc; rw [List.getElem?_cons_succ]
    rw [e]
    exact ⟨⟨h.1, ih.1⟩, ih.2⟩
theorem plc_le {s : S} (h : Good s) {k : Nat} (hk : k ≤ s.recs.length) : s.start ≤ placeOf s k ∧ placeOf s k ≤ s.stop :=
  ⟨chain_le (chain_split h.chain k hk).1, chain_le (chain_split h.chain k hk).2⟩
theorem plc_zero {s : S} (h : Good s) : placeOf s 0 = s.start := by
  have := (chain_split h.chain 0 (Nat.zero_le _)).1
  exact this.symm
theorem plc_all (s : S) : placeOf s s.recs.length = s.stop := by
  rw [placeOf_eq]
  unfold plc
  rw [List.getElem?_eq_none (Nat.le_refl _)]
theorem plc_next {s : S} (h : Good s) {k : Nat} (hk : k < s.recs.length) : placeOf s (k + 1) = placeOf s k + size s.recs[k] ∧ (s.recs[k]).lsn = placeOf s k := by
  have h1 := (chain_split h.chain k (by omega)).2
  rw [List.drop_eq_getElem_cons hk] at h1
  refine ⟨?_, h1.1⟩
  have h2 := (chain_split h1.2 0 (Nat.zero_le _)).1
  have h3 : placeOf s k + size s.recs[k] = plc (s.recs.drop (k + 1)) s.stop 0 := h2
  have h4 : plc (s.recs.drop (k + 1)) s.stop 0 = placeOf s (k + 1) := by
    rw [placeOf_eq]
    unfold plc
    rw [List.getElem?_drop, Nat.add_zero]
  rw [← h4, ← h3]
theorem plc_mono {s : S} (h : Good s) : ∀ {j k : Nat}, j ≤ k → k ≤ s.recs.length → placeOf s j ≤ placeOf s k := by
  intro j k hj hk
  induction k with
  | zero => obtain rfl : j = 0 := by omega
            exact Nat.le_refl _
  | succ k ih =>
    rcases Nat.lt_or_ge j (k + 1) with h1 | h1
    · have := (plc_next h (k := k) (by omega)).1
      have := ih (by omega) (by omega)
      omega
    · obtain rfl : j = k + 1 := by omega
      exact Nat.le_refl _
/-- The bytes from a record's place on begin with its form. -/
theorem bytes_take {s : S} (h : Good s) {k : Nat} (hk : k ≤ s.recs.length) : (bytes s).take (placeOf s k - s.start) = (s.recs.take k).flatMap Lr.form ∧ (bytes s).drop (placeOf s k - s.start) = (s.recs.drop k).flatMap Lr.form := by
  have h1 := flat_length (chain_split h.chain k hk).1
  have h2 : placeOf s k - s.start = ((s.recs.take k).flatMap Lr.form).length := by rw [placeOf_eq]; omega
  have h3 : bytes s = (s.recs.take k).flatMap Lr.form ++ (s.recs.drop k).flatMap Lr.form := by
    unfold bytes
    rw [← List.flatMap_append, List.take_append_drop]
  rw [h2, h3]
  exact ⟨List.take_left' rfl, List.drop_left' rfl⟩
theorem bytes_at {s : S} (h : Good s) {k : Nat} (hk : k < s.recs.length) : (bytes s).drop (placeOf s k - s.start) = Lr.form s.recs[k] ++ (bytes s).drop (placeOf s (k + 1) - s.start) := by
  rw [(bytes_take h (Nat.le_of_lt hk)).2, (bytes_take h (k := k + 1) hk).2, List.drop_eq_getElem_cons hk, List.flatMap_cons]
theorem rec_bytes {s : S} (h : Good s) {k : Nat} (hk : k < s.recs.length) : ((bytes s).drop (placeOf s k - s.start)).take (placeOf s (k + 1) - placeOf s k) = Lr.form s.recs[k] := by
  rw [bytes_at h hk]
  have := (plc_next h hk).1
  exact List.take_left' (by show size _ = _; omega)

/-- What both sectors ahead of the ring say. -/
structure Kn where
  start : Nat
  flushed : Nat
  point : Nat
  epoch : Nat
def headB (a c : Nat) (k : Kn) : List Nat := ((((Cod.le 4 a ++ Cod.le 4 c) ++ Cod.le 8 k.start) ++ Cod.le 8 k.flushed) ++ Cod.le 8 k.point) ++ Cod.le 4 k.epoch
def head (a c : Nat) (k : Kn) : List Nat := (Cod.le 4 (Crc.more 0 (headB a c k)) ++ headB a c k) ++ List.replicate 88 0
theorem headB_length (a c : Nat) (k : Kn) : (headB a c k).length = 36 := by
  unfold headB
  simp only [List.length_append, Cod.le_length]
theorem head_length (a c : Nat) (k : Kn) : (head a c k).length = 128 := by
  unfold head
  simp only [List.length_append, Cod.le_length, headB_length, List.length_replicate]
theorem headB_lt (a c : Nat) (k : Kn) : ∀ x ∈ headB a c k, x < 256 :=
  Lr.app_lt (Lr.app_lt (Lr.app_lt (Lr.app_lt (Lr.app_lt (Cod.le_lt _ _) (Cod.le_lt _ _)) (Cod.le_lt _ _)) (Cod.le_lt _ _)) (Cod.le_lt _ _)) (Cod.le_lt _ _)
theorem head_sec (a c : Nat) (k : Kn) : Dk.Sec (head a c k) :=
  ⟨head_length a c k, Lr.app_lt (Lr.app_lt (Cod.le_lt _ _) (headB_lt a c k)) (fun x hx => by rw [List.eq_of_mem_replicate hx]; decide)⟩

/-- Half a sector of the ring. -/
structure Hf where
  round : Nat
  epoch : Nat
  fill : Nat
  log : List Nat
def hfOf (b : List Nat) : Hf := ⟨Cod.num (b.take 4), Cod.num ((b.drop 4).take 4), Cod.num ((b.drop 8).take 4), b.drop 12⟩
def hfB (x : Hf) : List Nat := ((Cod.le 4 x.round ++ Cod.le 4 x.epoch) ++ Cod.le 4 x.fill) ++ x.log
def hf (b : List Nat) (k : Nat) : List Nat := (b.drop (64 * k)).take 64
theorem hf_length {b : List Nat} (h : b.length = 128) {k : Nat} (hk : k < 2) : (hf b k).length = 64 := by
  unfold hf
  rw [List.length_take, List.length_drop]
  omega
theorem hfB_length (x : Hf) : (hfB x).length = 12 + x.log.length := by
  unfold hfB
  simp only [List.length_append, Cod.le_length]
theorem num_four {n : Nat} (h : n < 4294967296) : Cod.num (Cod.le 4 n) = n := by
  rw [Cod.num_le, Nat.mod_eq_of_lt (Nat.lt_of_lt_of_le h (by decide))]
theorem hfOf_hfB {x : Hf} (h1 : x.round < 4294967296) (h2 : x.epoch < 4294967296) (h3 : x.fill < 4294967296) : hfOf (hfB x) = x := by
  have e1 : (hfB x).take 4 = Cod.le 4 x.round := by
    unfold hfB
    rw [List.append_assoc, List.append_assoc]
    exact List.take_left' (Cod.le_length 4 _)
  have e2 : (hfB x).drop 4 = Cod.le 4 x.epoch ++ (Cod.le 4 x.fill ++ x.log) := by
    unfold hfB
    rw [List.append_assoc, List.append_assoc]
    exact List.drop_left' (Cod.le_length 4 _)
  have e3 : (hfB x).drop 8 = Cod.le 4 x.fill ++ x.log := by
    unfold hfB
    rw [List.append_assoc]
    exact List.drop_left' (by rw [List.length_append, Cod.le_length, Cod.le_length])
  have e4 : (hfB x).drop 12 = x.log := by
    unfold hfB
    exact List.drop_left' (by rw [List.length_append, List.length_append, Cod.le_length, Cod.le_length, Cod.le_length])
  unfold hfOf
  rw [e1, e2, e3, e4, List.take_left' (Cod.le_length 4 _), List.take_left' (Cod.le_length 4 _), num_four h1, num_four h2, num_four h3]

/-- How many bytes of the log there are in a half, by what is said. -/
def good (said ep n2 h : Nat) (x : Hf) : Nat :=
  if x.round ≠ h / n2 then 0 else if x.epoch ≠ ep then min (min x.fill 52) (max (h * 52) said - h * 52) else min x.fill 52
theorem good_le (said ep n2 h : Nat) (x : Hf) : good said ep n2 h x ≤ 52 := by
  unfold good
  split
  · omega
  split
  · omega
  · omega
/-- A half of the ring is right for a log. -/
structure HOk (s : S) (said q : Nat) (x : Hf) : Prop where
  ep : x.epoch ≤ s.epoch
  in_ : ∀ h, s.start / 52 ≤ h → h % (2 * s.count) = q → 0 < good said s.epoch (2 * s.count) h x → h * 52 + good said s.epoch (2 * s.count) h x ≤ s.stop
  is : ∀ h i, s.start / 52 ≤ h → h % (2 * s.count) = q → i < good said s.epoch (2 * s.count) h x → s.start ≤ h * 52 + i → x.log.getD i 0 = byteAt s (h * 52 + i)
  lo : ∀ h, s.start / 52 ≤ h → h % (2 * s.count) = q → min 52 (s.flushed - h * 52) ≤ good said s.epoch (2 * s.count) h x

theorem HOk.move {s t : S} {said e q : Nat} {x : Hf} (h : HOk s said q x) (hc : t.count = s.count) (hs : s.start ≤ t.start) (hep : s.epoch ≤ t.epoch) (hst : t.epoch = s.epoch → t.stop = s.stop) (hes : e ≤ t.stop) (hef : t.flushed = e)
    (hby : ∀ p, t.start ≤ p → p < t.stop → byteAt t p = byteAt s p) (hlo : ∀ g, t.start / 52 ≤ g → g % (2 * s.count) = q → min 52 (e - g * 52) ≤ good said s.epoch (2 * s.count) g x) : HOk t e q x := by
  have key : ∀ g, t.start / 52 ≤ g → g % (2 * s.count) = q → good e t.epoch (2 * s.count) g x ≤ good said s.epoch (2 * s.count) g x ∧ (0 < good e t.epoch (2 * s.count) g x → g * 52 + good e t.epoch (2 * s.count) g x ≤ t.stop) ∧ min 52 (e - g * 52) ≤ good e t.epoch (2 * s.count) g x := by
    intro g hg hq
    have hg0 : s.start / 52 ≤ g := Nat.le_trans (Nat.div_le_div_right hs) hg
    have h1 := hlo g hg hq
    have h2 := h.in_ g hg0 hq
    have he := h.ep
    unfold good at h1 h2 ⊢
    by_cases hr : x.round ≠ g / (2 * s.count)
    · rw [if_pos hr] at h1 h2 ⊢
      rw [if_pos hr]
      exact ⟨Nat.le_refl _, fun h => absurd h (Nat.lt_irrefl 0), h1⟩
    · rw [if_neg hr] at h1 h2 ⊢
      rw [if_neg hr]
      by_cases hx : x.epoch ≠ t.epoch
      · rw [if_pos hx]
        by_cases hy : x.epoch ≠ s.epoch
        · rw [if_pos hy] at h1 h2 ⊢
          refine ⟨by omega, fun _ => by omega, by omega⟩
        · rw [if_neg hy] at h1 h2 ⊢
          refine ⟨by omega, fun _ => by omega, by omega⟩
      · have hy : ¬ x.epoch ≠ s.epoch := by omega
        have := hst (by omega)
        rw [if_neg hx]
        rw [if_neg hy] at h1 h2 ⊢
        refine ⟨Nat.le_refl _, fun h => by have := h2 h; omega, h1⟩
  refine ⟨Nat.le_trans h.ep hep, fun g hg hq => ?_, fun g i hg hq hi hp => ?_, fun g hg hq => ?_⟩
  · rw [hc] at hq ⊢
    exact (key g hg hq).2.1
  · rw [hc] at hq hi
    obtain ⟨k1, k2, -⟩ := key g hg hq
    have h3 := k2 (by omega)
    rw [hby _ hp (by omega)]
    exact h.is g i (Nat.le_trans (Nat.div_le_div_right hs) hg) hq (by omega) (by omega)
  · rw [hc] at hq ⊢
    rw [hef]
    exact (key g hg hq).2.2
theorem HOk.flushed {s : S} {said q : Nat} {x : Hf} (h : HOk s said q x) {f : Nat} (hlo : ∀ g, s.start / 52 ≤ g → g % (2 * s.count) = q → min 52 (f - g * 52) ≤ good said s.epoch (2 * s.count) g x) : HOk { s with flushed := f } said q x :=
  ⟨h.ep, h.in_, h.is, hlo⟩
theorem byteAt_app {s : S} (h : Good s) (x : Lr.R) {p : Nat} (hp : p < s.stop) (hs : s.start ≤ p) : byteAt (app s x) p = byteAt s p := by
  have := bytes_length h
  unfold byteAt
  have e : bytes (app s x) = bytes s ++ Lr.form (stamp s x) := by
    show (s.recs ++ [stamp s x]).flatMap Lr.form = _
    rw [List.flatMap_append, List.flatMap_cons, List.flatMap_nil, List.append_nil]
    rfl
  rw [e]
  show (bytes s ++ _).getD (p - s.start) 0 = _
  rw [List.getD_eq_getElem?_getD, List.getD_eq_getElem?_getD, List.getElem?_append_left (by omega)]
theorem HOk.app {s : S} {said q : Nat} {x : Hf} (h : HOk s said q x) (hg : Good s) (r : Lr.R) : HOk (app s r) said q x := by
  refine ⟨h.ep, fun g h1 h2 h3 => ?_, fun g i h1 h2 h3 h4 => ?_, h.lo⟩
  · have := h.in_ g h1 h2 h3
    show _ ≤ s.stop + _
    exact Nat.le_trans this (Nat.le_add_right _ _)
  · have h5 : i < good said s.epoch (2 * s.count) g x := h3
    have := h.in_ g h1 h2 (by omega)
    rw [byteAt_app hg r (by omega) h4]
    exact h.is g i h1 h2 h3 h4
/-- A half as it is written: all of the log that stands there. -/
theorem hok_new {s : S} {said q h : Nat} {x : Hf} (h1 : s.start / 52 ≤ h) (h2 : h < s.start / 52 + 2 * s.count) (hq : h % (2 * s.count) = q) (hr : x.round = h / (2 * s.count)) (he : x.epoch = s.epoch) (hf : x.fill = min 52 (s.stop - h * 52)) (hpos : h * 52 < s.stop)
    (hby : ∀ i, i < x.fill → s.start ≤ h * 52 + i → x.log.getD i 0 = byteAt s (h * 52 + i)) (hroom : s.stop ≤ (s.start / 52 + 2 * s.count) * 52) (hfl : s.flushed ≤ s.stop) : HOk s said q x := by
  have hn : 0 < 2 * s.count := by omega
  have key : ∀ g, s.start / 52 ≤ g → g % (2 * s.count) = q → g ≠ h → good said s.epoch (2 * s.count) g x = 0 ∧ s.stop ≤ g * 52 := by
    intro g hg hgq hne
    have hd1 := Nat.div_add_mod g (2 * s.count)
    have hd2 := Nat.div_add_mod h (2 * s.count)
    have hdd : g / (2 * s.count) ≠ h / (2 * s.count) := fun e => hne (by rw [← hd1, ← hd2, e, hgq, hq])
    have hlt : h < g := by
      rcases Nat.lt_or_ge h g with h3 | h3
      · exact h3
      · exfalso
        have h4 : g / (2 * s.count) < h / (2 * s.count) := Nat.lt_of_le_of_ne (Nat.div_le_div_right h3) hdd
        have h5 : 2 * s.count * (g / (2 * s.count) + 1) ≤ 2 * s.count * (h / (2 * s.count)) := Nat.mul_le_mul_left _ h4
        rw [Nat.mul_succ] at h5
        omega
    have h4 : h / (2 * s.count) < g / (2 * s.count) := Nat.lt_of_le_of_ne (Nat.div_le_div_right (Nat.le_of_lt hlt)) (Ne.symm hdd)
    have h5 : 2 * s.count * (h / (2 * s.count) + 1) ≤ 2 * s.count * (g / (2 * s.count)) := Nat.mul_le_mul_left _ h4
    rw [Nat.mul_succ] at h5
    refine ⟨?_, ?_⟩
    · unfold good
      rw [if_pos (by rw [hr]; exact Ne.symm hdd)]
    · refine Nat.le_trans hroom (Nat.mul_le_mul_right _ ?_)
      omega
  have hgood : good said s.epoch (2 * s.count) h x = x.fill := by
    unfold good
    rw [if_neg (by rw [hr]; simp), if_neg (by rw [he]; simp)]
    omega
  refine ⟨by rw [he]; exact Nat.le_refl _, fun g h3 h4 h5 => ?_, fun g i h3 h4 h5 h6 => ?_, fun g h3 h4 => ?_⟩
  · by_cases e : g = h
    · subst e; rw [hgood]; omega
    · rw [(key g h3 h4 e).1] at h5; exact absurd h5 (Nat.lt_irrefl 0)
  · by_cases e : g = h
    · subst e; rw [hgood] at h5; exact hby i h5 h6
    · rw [(key g h3 h4 e).1] at h5; exact absurd h5 (Nat.not_lt_zero _)
  · by_cases e : g = h
    · subst e; rw [hgood]; omega
    · have := (key g h3 h4 e).2; omega
/-- An empty half is right for a log of which nothing lasts. -/
theorem hok_blank {s : S} {said q : Nat} {x : Hf} (hf : x.fill = 0) (he : x.epoch ≤ s.epoch) (hfl : s.flushed ≤ s.start / 52 * 52) : HOk s said q x := by
  have hg : ∀ g, good said s.epoch (2 * s.count) g x = 0 := by
    intro g
    unfold good
    rw [hf]
    split
    · rfl
    split
    · omega
    · omega
  refine ⟨he, fun g _ _ h => ?_, fun g i _ _ h _ => ?_, fun g h _ => ?_⟩
  · rw [hg] at h; exact absurd h (Nat.lt_irrefl 0)
  · rw [hg] at h; exact absurd h (Nat.not_lt_zero _)
  · have : s.start / 52 * 52 ≤ g * 52 := Nat.mul_le_mul_right _ h
    omega
end Go.Proofs.Ytafpjcobagofcaa.Wl
