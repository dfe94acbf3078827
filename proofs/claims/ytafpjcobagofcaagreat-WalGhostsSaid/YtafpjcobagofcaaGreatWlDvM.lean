/- Where the bytes of a log stand on a device, plainly: halves of sectors with their headers, and two sectors that say what is known. Conditions: none. A device on which a log stands, plainly: what a crash, a sync, a write leave; what is found again. Conditions: none. The bytes of a log that wait, and what is known of it. Conditions: none. -/
import Derived.Test.YtafpjcobagofcaaGreatWlBase
import Derived.Test.YtafpjcobagofcaaGreatDkM
import Derived.Test.YtafpjcobagofcaaGreatLrReadM
namespace Go.Proofs.YtafpjcobagofcaaGreat.Wl
open Go.Proofs.YtafpjcobagofcaaGreat

def bytes (s : S) : List Nat := s.recs.flatMap Lr.form
def byteAt (s : S) (p : Nat) : Nat := (bytes s).getD (p - s.start) 0
theorem flat_length : ∀ {l : List Lr.R} {p q : Nat}, chain p l q → p + (l.flatMap Lr.form).length = q
  | [], _, _, h => h
  | x :: l, p, q, h => by
    have := flat_length h.2
    rw [List.flatMap_cons, List.length_append]
    unfold size at this
    omega
theorem bytes_length {s : S} (h : Good s) : s.start + (bytes s).length = s.stop := flat_length h.chain
def plc (l : List Lr.R) (q k : Nat) : Nat := match l[k]? with
  | some x => x.lsn
  | none => q
theorem placeOf_eq (s : S) (k : Nat) : placeOf s k = plc s.recs s.stop k := rfl
theorem chain_split : ∀ {l : List Lr.R} {p q : Nat}, chain p l q → ∀ k, k ≤ l.length → chain p (l.take k) (plc l q k) ∧ chain (plc l q k) (l.drop k) q
  | [], p, q, h, k, hk => by
    obtain rfl : k = 0 := by simpa using hk
    exact ⟨h, rfl⟩
  | x :: l, p, q, h, 0, _ => ⟨(h.1).symm, rfl, by show chain (x.lsn + size x) l q; rw [h.1]; exact h.2⟩
  | x :: l, p, q, h, k + 1, hk => by
    have ih := chain_split h.2 k (by simpa using hk)
    have e : plc (x :: l) q (k + 1) = plc l q k := by unfold plc; rw [List.getElem?_cons_succ]
    rw [e]
    exact ⟨⟨h.1, ih.1⟩, ih.2⟩
theorem plc_le {s : S} (h : Good s) {k : Nat} (hk : k ≤ s.recs.length) : s.start ≤ placeOf s k ∧ placeOf s k ≤ s.stop :=
  ⟨chain_le (chain_split h.chain k hk).1, chain_le (chain_split h.chain k hk).2⟩
theorem plc_zero {s : S} (h : Good s) : placeOf s 0 = s.start := by
  have := (chain_split h.chain 0 (Nat.zero_le _)).1
  exact this.symm
theorem plc_all (s : S) : placeOf s s.recs.length = s.stop := by
  rw [placeOf_eq]
  unfold plc
  rw [List.getElem?_eq_none (Nat.le_refl _)]
theorem plc_next {s : S} (h : Good s) {k : Nat} (hk : k < s.recs.length) : placeOf s (k + 1) = placeOf s k + size s.recs[k] ∧ (s.recs[k]).lsn = placeOf s k := by
  have h1 := (chain_split h.chain k (by omega)).2
  rw [List.drop_eq_getElem_cons hk] at h1
  refine ⟨?_, h1.1⟩
  have h2 := (chain_split h1.2 0 (Nat.zero_le _)).1
  have h3 : placeOf s k + size s.recs[k] = plc (s.recs.drop (k + 1)) s.stop 0 := h2
  have h4 : plc (s.recs.drop (k + 1)) s.stop 0 = placeOf s (k + 1) := by
    rw [placeOf_eq]
    unfold plc
    rw [List.getElem?_drop, Nat.add_zero]
  rw [← h4, ← h3]
theorem plc_mono {s : S} (h : Good s) : ∀ {j k : Nat}, j ≤ k → k ≤ s.recs.length → placeOf s j ≤ placeOf s k := by
  intro j k hj hk
  induction k with
  | zero => obtain rfl : j = 0 := by omega
            exact Nat.le_refl _
  | succ k ih =>
    rcases Nat.lt_or_ge j (k + 1) with h1 | h1
    · have := (plc_next h (k := k) (by omega)).1
      have := ih (by omega) (by omega)
      omega
    · obtain rfl : j = k + 1 := by omega
      exact Nat.le_refl _
/-- The bytes from a record's place on begin with its form. -/
theorem bytes_take {s : S} (h : Good s) {k : Nat} (hk : k ≤ s.recs.length) : (bytes s).take (placeOf s k - s.start) = (s.recs.take k).flatMap Lr.form ∧ (bytes s).drop (placeOf s k - s.start) = (s.recs.drop k).flatMap Lr.form := by
  have h1 := flat_length (chain_split h.chain k hk).1
  have h2 : placeOf s k - s.start = ((s.recs.take k).flatMap Lr.form).length := by rw [placeOf_eq]; omega
  have h3 : bytes s = (s.recs.take k).flatMap Lr.form ++ (s.recs.drop k).flatMap Lr.form := by
    unfold bytes
    rw [← List.flatMap_append, List.take_append_drop]
  rw [h2, h3]
  exact ⟨List.take_left' rfl, List.drop_left' rfl⟩
theorem bytes_at {s : S} (h : Good s) {k : Nat} (hk : k < s.recs.length) : (bytes s).drop (placeOf s k - s.start) = Lr.form s.recs[k] ++ (bytes s).drop (placeOf s (k + 1) - s.start) := by
  rw [(bytes_take h (Nat.le_of_lt hk)).2, (bytes_take h (k := k + 1) hk).2, List.drop_eq_getElem_cons hk, List.flatMap_cons]
theorem rec_bytes {s : S} (h : Good s) {k : Nat} (hk : k < s.recs.length) : ((bytes s).drop (placeOf s k - s.start)).take (placeOf s (k + 1) - placeOf s k) = Lr.form s.recs[k] := by
  rw [bytes_at h hk]
  have := (plc_next h hk).1
  exact List.take_left' (by show size _ = _; omega)

/-- What both sectors ahead of the ring say. -/
structure Kn where
  start : Nat
  flushed : Nat
  point : Nat
  epoch : Nat
def headB (a c : Nat) (k : Kn) : List Nat := ((((Cod.le 4 a ++ Cod.le 4 c) ++ Cod.le 8 k.start) ++ Cod.le 8 k.flushed) ++ Cod.le 8 k.point) ++ Cod.le 4 k.epoch
def head (a c : Nat) (k : Kn) : List Nat := (Cod.le 4 (Crc.more 0 (headB a c k)) ++ headB a c k) ++ List.replicate 88 0
theorem headB_length (a c : Nat) (k : Kn) : (headB a c k).length = 36 := by
  unfold headB
  simp only [List.length_append, Cod.le_length]
theorem head_length (a c : Nat) (k : Kn) : (head a c k).length = 128 := by
  unfold head
  simp only [List.length_append, Cod.le_length, headB_length, List.length_replicate]
theorem headB_lt (a c : Nat) (k : Kn) : ∀ x ∈ headB a c k, x < 256 :=
  Lr.app_lt (Lr.app_lt (Lr.app_lt (Lr.app_lt (Lr.app_lt (Cod.le_lt _ _) (Cod.le_lt _ _)) (Cod.le_lt _ _)) (Cod.le_lt _ _)) (Cod.le_lt _ _)) (Cod.le_lt _ _)
theorem head_sec (a c : Nat) (k : Kn) : Dk.Sec (head a c k) :=
  ⟨head_length a c k, Lr.app_lt (Lr.app_lt (Cod.le_lt _ _) (headB_lt a c k)) (fun x hx => by rw [List.eq_of_mem_replicate hx]; decide)⟩

/-- Half a sector of the ring. -/
structure Hf where
  round : Nat
  epoch : Nat
  fill : Nat
  log : List Nat
def hfOf (b : List Nat) : Hf := ⟨Cod.num (b.take 4), Cod.num ((b.drop 4).take 4), Cod.num ((b.drop 8).take 4), b.drop 12⟩
def hfB (x : Hf) : List Nat := ((Cod.le 4 x.round ++ Cod.le 4 x.epoch) ++ Cod.le 4 x.fill) ++ x.log
def hf (b : List Nat) (k : Nat) : List Nat := (b.drop (64 * k)).take 64
theorem hf_length {b : List Nat} (h : b.length = 128) {k : Nat} (hk : k < 2) : (hf b k).length = 64 := by
  unfold hf
  rw [List.length_take, List.length_drop]
  omega
theorem hfB_length (x : Hf) : (hfB x).length = 12 + x.log.length := by
  unfold hfB
  simp only [List.length_append, Cod.le_length]
theorem num_four {n : Nat} (h : n < 4294967296) : Cod.num (Cod.le 4 n) = n := by
  rw [Cod.num_le, Nat.mod_eq_of_lt (Nat.lt_of_lt_of_le h (by decide))]
theorem hfOf_hfB {x : Hf} (h1 : x.round < 4294967296) (h2 : x.epoch < 4294967296) (h3 : x.fill < 4294967296) : hfOf (hfB x) = x := by
  have e1 : (hfB x).take 4 = Cod.le 4 x.round := by
    unfold hfB
    rw [List.append_assoc, List.append_assoc]
    exact List.take_left' (Cod.le_length 4 _)
  have e2 : (hfB x).drop 4 = Cod.le 4 x.epoch ++ (Cod.le 4 x.fill ++ x.log) := by
    unfold hfB
    rw [List.append_assoc, List.append_assoc]
    exact List.drop_left' (Cod.le_length 4 _)
  have e3 : (hfB x).drop 8 = Cod.le 4 x.fill ++ x.log := by
    unfold hfB
    rw [List.append_assoc]
    exact List.drop_left' (by rw [List.length_append, Cod.le_length, Cod.le_length])
  have e4 : (hfB x).drop 12 = x.log := by
    unfold hfB
    exact List.drop_left' (by rw [List.length_append, List.length_append, Cod.le_length, Cod.le_length, Cod.le_length])
  unfold hfOf
  rw [e1, e2, e3, e4, List.take_left' (Cod.le_length 4 _), List.take_left' (Cod.le_length 4 _), num_four h1, num_four h2, num_four h3]

/-- How many bytes of the log there are in a half, by what is said. -/
def good (said ep n2 h : Nat) (x : Hf) : Nat :=
  if x.round ≠ h / n2 then 0 else if x.epoch ≠ ep then min (min x.fill 52) (max (h * 52) said - h * 52) else min x.fill 52
theorem good_le (said ep n2 h : Nat) (x : Hf) : good said ep n2 h x ≤ 52 := by
  unfold good
  split
  · omega
  split
  · omega
  · omega
/-- A half of the ring is right for a log. -/
structure HOk (s : S) (said q : Nat) (x : Hf) : Prop where
  ep : x.epoch ≤ s.epoch
  in_ : ∀ h, s.start / 52 ≤ h → h % (2 * s.count) = q → 0 < good said s.epoch (2 * s.count) h x → h * 52 + good said s.epoch (2 * s.count) h x ≤ s.stop
  is : ∀ h i, s.start / 52 ≤ h → h % (2 * s.count) = q → i < good said s.epoch (2 * s.count) h x → s.start ≤ h * 52 + i → x.log.getD i 0 = byteAt s (h * 52 + i)
  lo : ∀ h, s.start / 52 ≤ h → h % (2 * s.count) = q → min 52 (s.flushed - h * 52) ≤ good said s.epoch (2 * s.count) h x

theorem HOk.move {s t : S} {said e q : Nat} {x : Hf} (h : HOk s said q x) (hc : t.count = s.count) (hs : s.start ≤ t.start) (hep : s.epoch ≤ t.epoch) (hst : t.epoch = s.epoch → t.stop = s.stop) (hes : e ≤ t.stop) (hef : t.flushed = e)
    (hby : ∀ p, t.start ≤ p → p < t.stop → byteAt t p = byteAt s p) (hlo : ∀ g, t.start / 52 ≤ g → g % (2 * s.count) = q → min 52 (e - g * 52) ≤ good said s.epoch (2 * s.count) g x) : HOk t e q x := by
  have key : ∀ g, t.start / 52 ≤ g → g % (2 * s.count) = q → good e t.epoch (2 * s.count) g x ≤ good said s.epoch (2 * s.count) g x ∧ (0 < good e t.epoch (2 * s.count) g x → g * 52 + good e t.epoch (2 * s.count) g x ≤ t.stop) ∧ min 52 (e - g * 52) ≤ good e t.epoch (2 * s.count) g x := by
    intro g hg hq
    have hg0 : s.start / 52 ≤ g := Nat.le_trans (Nat.div_le_div_right hs) hg
    have h1 := hlo g hg hq
    have h2 := h.in_ g hg0 hq
    have he := h.ep
    unfold good at h1 h2 ⊢
    by_cases hr : x.round ≠ g / (2 * s.count)
    · rw [if_pos hr] at h1 h2 ⊢
      rw [if_pos hr]
      exact ⟨Nat.le_refl _, fun h => absurd h (Nat.lt_irrefl 0), h1⟩
    · rw [if_neg hr] at h1 h2 ⊢
      rw [if_neg hr]
      by_cases hx : x.epoch ≠ t.epoch
      · rw [if_pos hx]
        by_cases hy : x.epoch ≠ s.epoch
        · rw [if_pos hy] at h1 h2 ⊢
          refine ⟨by omega, fun _ => by omega, by omega⟩
        · rw [if_neg hy] at h1 h2 ⊢
          refine ⟨by omega, fun _ => by omega, by omega⟩
      · have hy : ¬ x.epoch ≠ s.epoch := by omega
        have := hst (by omega)
        rw [if_neg hx]
        rw [if_neg hy] at h1 h2 ⊢
        refine ⟨Nat.le_refl _, fun h => by have := h2 h; omega, h1⟩
  refine ⟨Nat.le_trans h.ep hep, fun g hg hq => ?_, fun g i hg hq hi hp => ?_, fun g hg hq => ?_⟩
  · rw [hc] at hq ⊢
    exact (key g hg hq).2.1
  · rw [hc] at hq hi
    obtain ⟨k1, k2, -⟩ := key g hg hq
    have h3 := k2 (by omega)
    rw [hby _ hp (by omega)]
    exact h.is g i (Nat.le_trans (Nat.div_le_div_right hs) hg) hq (by omega) (by omega)
  · rw [hc] at hq ⊢
    rw [hef]
    exact (key g hg hq).2.2
theorem HOk.flushed {s : S} {said q : Nat} {x : Hf} (h : HOk s said q x) {f : Nat} (hlo : ∀ g, s.start / 52 ≤ g → g % (2 * s.count) = q → min 52 (f - g * 52) ≤ good said s.epoch (2 * s.count) g x) : HOk { s with flushed := f } said q x :=
  ⟨h.ep, h.in_, h.is, hlo⟩
theorem byteAt_app {s : S} (h : Good s) (x : Lr.R) {p : Nat} (hp : p < s.stop) (hs : s.start ≤ p) : byteAt (app s x) p = byteAt s p := by
  have := bytes_length h
  unfold byteAt
  have e : bytes (app s x) = bytes s ++ Lr.form (stamp s x) := by
    show (s.recs ++ [stamp s x]).flatMap Lr.form = _
    rw [List.flatMap_append, List.flatMap_cons, List.flatMap_nil, List.append_nil]
    rfl
  rw [e]
  show (bytes s ++ _).getD (p - s.start) 0 = _
  rw [List.getD_eq_getElem?_getD, List.getD_eq_getElem?_getD, List.getElem?_append_left (by omega)]
theorem HOk.app {s : S} {said q : Nat} {x : Hf} (h : HOk s said q x) (hg : Good s) (r : Lr.R) : HOk (app s r) said q x := by
  refine ⟨h.ep, fun g h1 h2 h3 => ?_, fun g i h1 h2 h3 h4 => ?_, h.lo⟩
  · have := h.in_ g h1 h2 h3
    show _ ≤ s.stop + _
    exact Nat.le_trans this (Nat.le_add_right _ _)
  · have h5 : i < good said s.epoch (2 * s.count) g x := h3
    have := h.in_ g h1 h2 (by omega)
    rw [byteAt_app hg r (by omega) h4]
    exact h.is g i h1 h2 h3 h4
/-- A half as it is written: all of the log that stands there. -/
theorem hok_new {s : S} {said q h : Nat} {x : Hf} (h1 : s.start / 52 ≤ h) (h2 : h < s.start / 52 + 2 * s.count) (hq : h % (2 * s.count) = q) (hr : x.round = h / (2 * s.count)) (he : x.epoch = s.epoch) (hf : x.fill = min 52 (s.stop - h * 52)) (hpos : h * 52 < s.stop)
    (hby : ∀ i, i < x.fill → s.start ≤ h * 52 + i → x.log.getD i 0 = byteAt s (h * 52 + i)) (hroom : s.stop ≤ (s.start / 52 + 2 * s.count) * 52) (hfl : s.flushed ≤ s.stop) : HOk s said q x := by
  have hn : 0 < 2 * s.count := by omega
  have key : ∀ g, s.start / 52 ≤ g → g % (2 * s.count) = q → g ≠ h → good said s.epoch (2 * s.count) g x = 0 ∧ s.stop ≤ g * 52 := by
    intro g hg hgq hne
    have hd1 := Nat.div_add_mod g (2 * s.count)
    have hd2 := Nat.div_add_mod h (2 * s.count)
    have hdd : g / (2 * s.count) ≠ h / (2 * s.count) := fun e => hne (by rw [← hd1, ← hd2, e, hgq, hq])
    have hlt : h < g := by
      rcases Nat.lt_or_ge h g with h3 | h3
      · exact h3
      · exfalso
        have h4 : g / (2 * s.count) < h / (2 * s.count) := Nat.lt_of_le_of_ne (Nat.div_le_div_right h3) hdd
        have h5 : 2 * s.count * (g / (2 * s.count) + 1) ≤ 2 * s.count * (h / (2 * s.count)) := Nat.mul_le_mul_left _ h4
        rw [Nat.mul_succ] at h5
        omega
    have h4 : h / (2 * s.count) < g / (2 * s.count) := Nat.lt_of_le_of_ne (Nat.div_le_div_right (Nat.le_of_lt hlt)) (Ne.symm hdd)
    have h5 : 2 * s.count * (h / (2 * s.count) + 1) ≤ 2 * s.count * (g / (2 * s.count)) := Nat.mul_le_mul_left _ h4
    rw [Nat.mul_succ] at h5
    refine ⟨?_, ?_⟩
    · unfold good
      rw [if_pos (by rw [hr]; exact Ne.symm hdd)]
    · refine Nat.le_trans hroom (Nat.mul_le_mul_right _ ?_)
      omega
  have hgood : good said s.epoch (2 * s.count) h x = x.fill := by
    unfold good
    rw [if_neg (by rw [hr]; simp), if_neg (by rw [he]; simp)]
    omega
  refine ⟨by rw [he]; exact Nat.le_refl _, fun g h3 h4 h5 => ?_, fun g i h3 h4 h5 h6 => ?_, fun g h3 h4 => ?_⟩
  · by_cases e : g = h
    · subst e; rw [hgood]; omega
    · rw [(key g h3 h4 e).1] at h5; exact absurd h5 (Nat.lt_irrefl 0)
  · by_cases e : g = h
    · subst e; rw [hgood] at h5; exact hby i h5 h6
    · rw [(key g h3 h4 e).1] at h5; exact absurd h5 (Nat.not_lt_zero _)
  · by_cases e : g = h
    · subst e; rw [hgood]; omega
    · have := (key g h3 h4 e).2; omega
/-- An empty half is right for a log of which nothing lasts. -/
theorem hok_blank {s : S} {said q : Nat} {x : Hf} (hf : x.fill = 0) (he : x.epoch ≤ s.epoch) (hfl : s.flushed ≤ s.start / 52 * 52) : HOk s said q x := by
  have hg : ∀ g, good said s.epoch (2 * s.count) g x = 0 := by
    intro g
    unfold good
    rw [hf]
    split
    · rfl
    split
    · omega
    · omega
  refine ⟨he, fun g _ _ h => ?_, fun g i _ _ h _ => ?_, fun g h _ => ?_⟩
  · rw [hg] at h; exact absurd h (Nat.lt_irrefl 0)
  · rw [hg] at h; exact absurd h (Nat.not_lt_zero _)
  · have : s.start / 52 * 52 ≤ g * 52 := Nat.mul_le_mul_right _ h
    omega
end Go.Proofs.YtafpjcobagofcaaGreat.Wl

namespace Go.Proofs.YtafpjcobagofcaaGreat.Wl
open Go.Proofs.YtafpjcobagofcaaGreat

/-- What is always so of a log. -/
structure Ex (s : S) : Prop where
  good : Good s
  low : 16 ≤ s.count
  high : s.count ≤ 8192
  room : s.stop ≤ (s.start / 52 + 2 * s.count) * 52
  edge : ∃ k, k ≤ s.recs.length ∧ placeOf s k = s.flushed
  ep : s.epoch < 4294967296
  pt : s.point < 18446744073709551616
/-- What a sector tells, whether it lasts or waits. -/
def eff (d : Dk.Dev) (i : Nat) : List Nat := (d.waits.getD i none).getD (d.lasts.getD i [])
/-- Where a half of the log stands. -/
def half (s : S) (d : Dk.Dev) (h : Nat) : Hf := hfOf (hf (eff d (s.at_ + 2 + h % (2 * s.count) / 2)) (h % 2))
def SecOk (s : S) (said j : Nat) (b : List Nat) : Prop := HOk s said (2 * j) (hfOf (hf b 0)) ∧ HOk s said (2 * j + 1) (hfOf (hf b 1))
theorem SecOk.hf {s : S} {said j : Nat} {b : List Nat} (h : SecOk s said j b) {k : Nat} (hk : k < 2) : HOk s said (2 * j + k) (hfOf (hf b k)) := by
  obtain rfl | rfl : k = 0 ∨ k = 1 := by omega
  · exact h.1
  · exact h.2
/-- A device on which a log stands. -/
structure Dv (s : S) (said : Nat) (d : Dk.Dev) : Prop where
  ok : Dk.Ok d
  fits : s.at_ + s.count + 2 ≤ Dk.size d
  hl : ∀ i, i < 2 → d.lasts.getD (s.at_ + i) [] = head s.at_ s.count ⟨s.start, said, s.point, s.epoch⟩
  hw : ∀ i b, i < 2 → d.waits.getD (s.at_ + i) none = some b → b = head s.at_ s.count ⟨s.start, said, s.point, s.epoch⟩
  sl : ∀ j, j < s.count → SecOk s said j (d.lasts.getD (s.at_ + 2 + j) [])
  sw : ∀ j b, j < s.count → d.waits.getD (s.at_ + 2 + j) none = some b → SecOk s said j b
theorem Dv.eff {s : S} {said : Nat} {d : Dk.Dev} (h : Dv s said d) {j : Nat} (hj : j < s.count) : SecOk s said j (eff d (s.at_ + 2 + j)) := by
  unfold Wl.eff
  cases hw : d.waits.getD (s.at_ + 2 + j) none with
  | none => exact h.sl j hj
  | some b => exact h.sw j b hj hw
theorem Dv.effh {s : S} {said : Nat} {d : Dk.Dev} (h : Dv s said d) {i : Nat} (hi : i < 2) : Wl.eff d (s.at_ + i) = head s.at_ s.count ⟨s.start, said, s.point, s.epoch⟩ := by
  unfold Wl.eff
  cases hw : d.waits.getD (s.at_ + i) none with
  | none => exact h.hl i hi
  | some b => exact h.hw i b hi hw
theorem sec_at {n h : Nat} : h % (2 * n) = 2 * (h % (2 * n) / 2) + h % 2 := by
  have h1 : h % (2 * n) % 2 = h % 2 := Nat.mod_mod_of_dvd h (Nat.dvd_mul_right 2 n)
  have := Nat.div_add_mod (h % (2 * n)) 2
  omega
theorem sec_lt {n h : Nat} (hn : 0 < n) : h % (2 * n) / 2 < n := by
  have := Nat.mod_lt h (show 0 < 2 * n by omega)
  omega
theorem Dv.half {s : S} {said : Nat} {d : Dk.Dev} (h : Dv s said d) (hc : 0 < s.count) (g : Nat) : HOk s said (g % (2 * s.count)) (half s d g) := by
  have h1 := (h.eff (sec_lt (h := g) hc)).hf (k := g % 2) (by omega)
  rw [← sec_at] at h1
  exact h1
theorem eff_sec {d : Dk.Dev} (h : Dk.Ok d) {i : Nat} (hi : i < Dk.size d) : Dk.Sec (eff d i) := by
  unfold eff
  cases hw : d.waits.getD i none with
  | none =>
    rw [Option.getD_none, List.getD_eq_getElem?_getD, List.getElem?_eq_getElem hi, Option.getD_some]
    exact h.l1 _ (List.getElem_mem _)
  | some b =>
    rw [List.getD_eq_getElem?_getD, List.getElem?_eq_getElem (by rw [h.w]; exact hi), Option.getD_some] at hw
    exact h.w1 b (by rw [← hw]; exact List.getElem_mem _)
theorem hf_pick {a b : List Nat} (ha : a.length = 128) (hb : b.length = 128) (p : Nat) {k : Nat} (hk : k < 2) : hf (Dk.pick p a b) k = hf a k ∨ hf (Dk.pick p a b) k = hf b k := by
  have mix : ∀ u v : List Nat, u.length = 128 → v.length = 128 → hf (u.take 64 ++ v.drop 64) k = hf u k ∨ hf (u.take 64 ++ v.drop 64) k = hf v k := by
    intro u v hu hv
    have hl : (u.take 64).length = 64 := by rw [List.length_take]; omega
    obtain rfl | rfl : k = 0 ∨ k = 1 := by omega
    · refine Or.inl ?_
      unfold hf
      rw [Nat.mul_zero, List.drop_zero, List.drop_zero, List.take_left' hl]
    · refine Or.inr ?_
      unfold hf
      rw [Nat.mul_one, List.drop_left' hl]
  unfold Dk.pick
  split
  · exact Or.inl rfl
  split
  · exact Or.inr rfl
  split
  · exact (mix b a hb ha).symm
  · exact mix a b ha hb
theorem SecOk.pick {s : S} {said j : Nat} {a b : List Nat} (ha : SecOk s said j a) (hb : SecOk s said j b) (la : a.length = 128) (lb : b.length = 128) (p : Nat) : SecOk s said j (Dk.pick p a b) := by
  refine ⟨?_, ?_⟩
  · rcases hf_pick la lb p (k := 0) (by decide) with e | e
    · rw [e]; exact ha.1
    · rw [e]; exact hb.1
  · rcases hf_pick la lb p (k := 1) (by decide) with e | e
    · rw [e]; exact ha.2
    · rw [e]; exact hb.2
theorem pick_same (p : Nat) (a : List Nat) : Dk.pick p a a = a := by
  unfold Dk.pick
  split
  · rfl
  split
  · rfl
  split
  · exact List.take_append_drop 64 a
  · exact List.take_append_drop 64 a
theorem lasts_len {d : Dk.Dev} (h : Dk.Ok d) {i : Nat} (hi : i < Dk.size d) : (d.lasts.getD i []).length = 128 := by
  rw [List.getD_eq_getElem?_getD, List.getElem?_eq_getElem hi, Option.getD_some]
  exact (h.l1 _ (List.getElem_mem _)).1
theorem waits_len {d : Dk.Dev} (h : Dk.Ok d) {i : Nat} {b : List Nat} (hw : d.waits.getD i none = some b) : b.length = 128 := by
  rw [List.getD_eq_getElem?_getD] at hw
  cases h1 : d.waits[i]? with
  | none => rw [h1] at hw; cases hw
  | some x =>
    rw [h1] at hw
    obtain rfl : x = some b := hw
    exact (h.w1 b (List.mem_of_getElem? h1)).1
theorem none_at (n i : Nat) : (List.replicate n (none : Option (List Nat))).getD i none = none := Dk.getD_replicate _ _ _
/-- Behind any crash. -/
theorem Dv.crash {s : S} {said : Nat} {d : Dk.Dev} (h : Dv s said d) (ps : List Nat) : Dv s said (Dk.crash d ps) := by
  have hz := Dk.crashed_size h.ok ps
  refine ⟨Dk.ok_crash h.ok ps, by rw [hz]; exact h.fits, fun i hi => ?_, fun i b hi hw => ?_, fun j hj => ?_, fun j b hj hw => ?_⟩
  · have := h.fits
    rw [Dk.crash_lasts h.ok ps (by omega)]
    cases hw : d.waits.getD (s.at_ + i) none with
    | none => exact h.hl i hi
    | some b =>
      show Dk.pick _ _ _ = _
      rw [h.hl i hi, h.hw i b hi hw, pick_same]
  · rw [show (Dk.crash d ps).waits = Dk.none_ d from rfl] at hw
    unfold Dk.none_ at hw
    rw [none_at] at hw; cases hw
  · have := h.fits
    rw [Dk.crash_lasts h.ok ps (by omega)]
    cases hw : d.waits.getD (s.at_ + 2 + j) none with
    | none => exact h.sl j hj
    | some b => exact (h.sl j hj).pick (h.sw j b hj hw) (lasts_len h.ok (by omega)) (waits_len h.ok hw) _
  · rw [show (Dk.crash d ps).waits = Dk.none_ d from rfl] at hw
    unfold Dk.none_ at hw
    rw [none_at] at hw; cases hw
/-- Behind a sync. -/
theorem Dv.last {s : S} {said : Nat} {d : Dk.Dev} (h : Dv s said d) : Dv s said (Dk.last d) := by
  have hz := Dk.last_size2 h.ok
  have hf := h.fits
  refine ⟨Dk.ok_last h.ok, by rw [hz]; exact hf, fun i hi => ?_, fun i b hi hw => ?_, fun j hj => ?_, fun j b hj hw => ?_⟩
  · rw [Dk.last_lasts h.ok (by omega)]
    exact h.effh hi
  · rw [show (Dk.last d).waits = Dk.none_ d from rfl] at hw
    unfold Dk.none_ at hw
    rw [none_at] at hw; cases hw
  · rw [Dk.last_lasts h.ok (by omega)]
    exact h.eff hj
  · rw [show (Dk.last d).waits = Dk.none_ d from rfl] at hw
    unfold Dk.none_ at hw
    rw [none_at] at hw; cases hw
theorem eff_last {d : Dk.Dev} (h : Dk.Ok d) {i : Nat} (hi : i < Dk.size d) : eff (Dk.last d) i = eff d i := by
  show ((Dk.none_ d).getD i none).getD ((Dk.last d).lasts.getD i []) = _
  unfold Dk.none_
  rw [none_at, Option.getD_none, Dk.last_lasts h hi]
  rfl
/-- What lasts and what waits is the same. -/
theorem Dv.same {s : S} {said : Nat} {d d' : Dk.Dev} (h : Dv s said d) (ok : Dk.Ok d') (hl : d'.lasts = d.lasts) (hw : d'.waits = d.waits) : Dv s said d' := by
  refine ⟨ok, ?_, ?_, ?_, ?_, ?_⟩
  · have := h.fits
    unfold Dk.size at *
    rw [hl]; exact this
  · rw [hl]; exact h.hl
  · rw [hw]; exact h.hw
  · rw [hl]; exact h.sl
  · rw [hw]; exact h.sw
theorem Dv.goes {s : S} {said : Nat} {d : Dk.Dev} (h : Dv s said d) : Dv s said (Dk.goes d) := by
  obtain ⟨h1, h2, -, -⟩ := Dk.goes_same d
  exact h.same (Dk.ok_goes h.ok) h1 h2
theorem waits_put {d : Dk.Dev} {i k : Nat} {b : List Nat} (hi : i < d.waits.length) : (Dk.put d i b).waits.getD k none = if i = k then some b else d.waits.getD k none := by
  show (d.waits.set i (some b)).getD k none = _
  by_cases e : i = k
  · subst e
    rw [if_pos rfl, Dk.getD_set_self hi]
  · rw [if_neg e, Dk.getD_set_ne e]
/-- A sector of the ring that is right is written. -/
theorem Dv.put {s : S} {said : Nat} {d : Dk.Dev} (h : Dv s said d) {j : Nat} {b : List Nat} (hj : j < s.count) (hb : Dk.Sec b) (hs : SecOk s said j b) : Dv s said (Dk.put d (s.at_ + 2 + j) b) := by
  have hf := h.fits
  have hi : s.at_ + 2 + j < d.waits.length := by rw [h.ok.w]; omega
  refine ⟨Dk.ok_put h.ok _ hb, h.fits, h.hl, fun i c hi2 hw => ?_, h.sl, fun k c hk hw => ?_⟩
  · rw [waits_put hi, if_neg (by omega)] at hw
    exact h.hw i c hi2 hw
  · rw [waits_put hi] at hw
    by_cases e : j = k
    · subst e
      rw [if_pos rfl] at hw
      cases hw
      exact hs
    · rw [if_neg (by omega)] at hw
      exact h.sw k c hk hw
theorem eff_put {d : Dk.Dev} {i k : Nat} {b : List Nat} (hi : i < d.waits.length) : eff (Dk.put d i b) k = if i = k then b else eff d k := by
  unfold eff
  rw [waits_put hi]
  by_cases e : i = k
  · rw [if_pos e, if_pos e]; rfl
  · rw [if_neg e, if_neg e]; rfl
/-- Both sectors ahead of the ring are written, and all lasts. -/
def told (d : Dk.Dev) (a : Nat) (b : List Nat) : Dk.Dev := Dk.last (Dk.put (Dk.put d a b) (a + 1) b)
theorem told_ok {d : Dk.Dev} (h : Dk.Ok d) {a : Nat} {b : List Nat} (hb : Dk.Sec b) : Dk.Ok (told d a b) := Dk.ok_last (Dk.ok_put (Dk.ok_put h _ hb) _ hb)
theorem told_size {d : Dk.Dev} (h : Dk.Ok d) {a : Nat} {b : List Nat} (hb : Dk.Sec b) : Dk.size (told d a b) = Dk.size d := Dk.last_size2 (Dk.ok_put (Dk.ok_put h _ hb) _ hb)
theorem told_waits (d : Dk.Dev) (a i : Nat) (b : List Nat) : (told d a b).waits.getD i none = none := none_at _ _
theorem told_lasts {d : Dk.Dev} (h : Dk.Ok d) {a i : Nat} {b : List Nat} (hb : Dk.Sec b) (ha : a + 1 < Dk.size d) (hi : i < Dk.size d) : (told d a b).lasts.getD i [] = if i = a ∨ i = a + 1 then b else eff d i := by
  have h1 : Dk.Ok (Dk.put (Dk.put d a b) (a + 1) b) := Dk.ok_put (Dk.ok_put h _ hb) _ hb
  have h2 : a < d.waits.length := by rw [h.w]; omega
  have h3 : a + 1 < (Dk.put d a b).waits.length := by
    have := (Dk.ok_put h a hb).w
    rw [this]
    exact ha
  unfold told
  rw [Dk.last_lasts h1 hi]
  show eff (Dk.put (Dk.put d a b) (a + 1) b) i = _
  rw [eff_put h3, eff_put h2]
  by_cases e1 : a + 1 = i
  · rw [if_pos e1, if_pos (Or.inr e1.symm)]
  · rw [if_neg e1]
    by_cases e2 : a = i
    · rw [if_pos e2, if_pos (Or.inl e2.symm)]
    · rw [if_neg e2, if_neg (by omega)]
theorem calm_told {n : Nat} {d : Dk.Dev} (h : Calm n d) (ok : Dk.Ok d) {a : Nat} {b : List Nat} (hb : Dk.Sec b) : Calm n (told d a b) := ⟨h.off, h.armed, by rw [told_size ok hb]; exact h.sz, h.most⟩
/-- A log that stands on a device is told anew: what was told then holds up to e. -/
theorem Dv.told {s t : S} {said e : Nat} {d : Dk.Dev} (h : Dv s said d) (hcn : 0 < s.count) (ha : t.at_ = s.at_) (hc : t.count = s.count) (hs : s.start ≤ t.start) (hep : s.epoch ≤ t.epoch) (hst : t.epoch = s.epoch → t.stop = s.stop) (hes : e ≤ t.stop) (hef : t.flushed = e)
    (hby : ∀ p, t.start ≤ p → p < t.stop → byteAt t p = byteAt s p) (hlo : ∀ g, t.start / 52 ≤ g → min 52 (e - g * 52) ≤ good said s.epoch (2 * s.count) g (Wl.half s d g)) : Dv t e (told d s.at_ (head s.at_ s.count ⟨t.start, e, t.point, t.epoch⟩)) := by
  have hb := head_sec s.at_ s.count ⟨t.start, e, t.point, t.epoch⟩
  have hfit := h.fits
  have hmv : ∀ j, j < s.count → SecOk t e j (Wl.eff d (s.at_ + 2 + j)) := by
    intro j hj
    have h0 := h.eff hj
    have hh : ∀ k, k < 2 → ∀ g, g % (2 * s.count) = 2 * j + k → Wl.half s d g = hfOf (hf (Wl.eff d (s.at_ + 2 + j)) k) := by
      intro k hk g hg
      have h1 := sec_at (n := s.count) (h := g)
      have h2 : g % (2 * s.count) / 2 = j := by omega
      have h3 : g % 2 = k := by omega
      unfold Wl.half
      rw [h2, h3]
    refine ⟨h0.1.move hc hs hep hst hes hef hby fun g h1 h2 => ?_, h0.2.move hc hs hep hst hes hef hby fun g h1 h2 => ?_⟩
    · rw [← hh 0 (by decide) g h2]
      exact hlo g h1
    · rw [← hh 1 (by decide) g h2]
      exact hlo g h1
  refine ⟨told_ok h.ok hb, by rw [told_size h.ok hb, ha, hc]; exact hfit, fun i hi => ?_, fun i b hi hw => ?_, fun j hj => ?_, fun j b hj hw => ?_⟩
  · rw [ha, hc, told_lasts h.ok hb (by omega) (by omega), if_pos (by omega)]
  · rw [told_waits] at hw; cases hw
  · rw [hc] at hj
    rw [ha, told_lasts h.ok hb (by omega) (by omega), if_neg (by omega)]
    exact hmv j hj
  · rw [told_waits] at hw; cases hw
theorem Dv.app {s : S} {said : Nat} {d : Dk.Dev} (h : Dv s said d) (hg : Good s) (r : Lr.R) : Dv (app s r) said d :=
  ⟨h.ok, h.fits, h.hl, h.hw, fun j hj => ⟨(h.sl j hj).1.app hg r, (h.sl j hj).2.app hg r⟩, fun j b hj hw => ⟨(h.sw j b hj hw).1.app hg r, (h.sw j b hj hw).2.app hg r⟩⟩
/-- A fresh log on a device of noughts. -/
theorem dv_fresh {d : Dk.Dev} {a c : Nat} (ok : Dk.Ok d) (hfit : a + c + 2 ≤ Dk.size d) (hz : ∀ i, i < Dk.size d → eff d i = Dk.blank) : Dv (fresh a c) 52 (told d a (head a c ⟨52, 52, 0, 1⟩)) := by
  have hb := head_sec a c ⟨52, 52, 0, 1⟩
  have h0 : ∀ k, k < 2 → ∀ q, HOk (fresh a c) 52 q (hfOf (hf Dk.blank k)) := by
    intro k hk q
    refine hok_blank ?_ ?_ (show 52 ≤ 52 / 52 * 52 by decide)
    · obtain rfl | rfl : k = 0 ∨ k = 1 := by omega
      · decide
      · decide
    · obtain rfl | rfl : k = 0 ∨ k = 1 := by omega
      · show (hfOf (hf Dk.blank 0)).epoch ≤ 1
        decide
      · show (hfOf (hf Dk.blank 1)).epoch ≤ 1
        decide
  refine ⟨told_ok ok hb, by rw [told_size ok hb]; exact hfit, fun i hi => ?_, fun i b hi hw => ?_, fun j hj => ?_, fun j b hj hw => ?_⟩
  · show (Wl.told d a _).lasts.getD (a + i) [] = _
    rw [told_lasts ok hb (by omega) (by omega), if_pos (by omega)]
    rfl
  · rw [told_waits] at hw; cases hw
  · have hj : j < c := hj
    show SecOk _ _ _ ((Wl.told d a _).lasts.getD (a + 2 + j) [])
    rw [told_lasts ok hb (by omega) (by omega), if_neg (by omega), hz _ (by omega)]
    exact ⟨h0 0 (by decide) _, h0 1 (by decide) _⟩
  · rw [told_waits] at hw; cases hw
theorem ex_fresh {a c : Nat} (h1 : 16 ≤ c) (h2 : c ≤ 8192) : Ex (fresh a c) := by
  refine ⟨good_fresh a c, h1, h2, ?_, ⟨0, Nat.zero_le _, rfl⟩, (show 1 < 4294967296 by decide), (show 0 < 18446744073709551616 by decide)⟩
  show 52 ≤ (52 / 52 + 2 * c) * 52
  omega

/-- What was looked through so far: the halves from Start's on are full. -/
structure Ls (s : S) (said : Nat) (d : Dk.Dev) (h : Nat) (acc : List Nat) : Prop where
  low : s.start / 52 ≤ h
  high : h ≤ s.start / 52 + 2 * s.count
  len : acc.length = 52 * (h - s.start / 52)
  is : ∀ i, i < acc.length → s.start ≤ s.start / 52 * 52 + i → acc.getD i 0 = byteAt s (s.start / 52 * 52 + i)
  full : ∀ g, s.start / 52 ≤ g → g < h → good said s.epoch (2 * s.count) g (half s d g) = 52
/-- .. and where that ends. -/
structure LsEnd (s : S) (said : Nat) (d : Dk.Dev) (E : Nat) (acc : List Nat) : Prop where
  len : s.start / 52 * 52 + acc.length = E
  is : ∀ i, i < acc.length → s.start ≤ s.start / 52 * 52 + i → acc.getD i 0 = byteAt s (s.start / 52 * 52 + i)
  lo : ∀ g, s.start / 52 ≤ g → min 52 (E - g * 52) ≤ good said s.epoch (2 * s.count) g (half s d g)
  fl : s.flushed ≤ E
  st : E ≤ s.stop
theorem getD_app {a b : List Nat} (i : Nat) : (a ++ b).getD i 0 = if i < a.length then a.getD i 0 else b.getD (i - a.length) 0 := by
  rw [List.getD_eq_getElem?_getD]
  by_cases h : i < a.length
  · rw [if_pos h, List.getElem?_append_left h, List.getD_eq_getElem?_getD]
  · rw [if_neg h, List.getElem?_append_right (by omega), List.getD_eq_getElem?_getD]
theorem getD_take {a : List Nat} {n i : Nat} (h : i < n) : (a.take n).getD i 0 = a.getD i 0 := by
  rw [List.getD_eq_getElem?_getD, List.getElem?_take, if_pos h, List.getD_eq_getElem?_getD]
theorem Ls.part {s : S} {said : Nat} {d : Dk.Dev} {h : Nat} {acc : List Nat} (H : Ls s said d h acc) (hD : Dv s said d) (hcn : 0 < s.count) {n : Nat} (hn : good said s.epoch (2 * s.count) h (Wl.half s d h) = n) (hl : (Wl.half s d h).log.length = 52) :
    (acc ++ (Wl.half s d h).log.take n).length = 52 * (h - s.start / 52) + n ∧ ∀ i, i < (acc ++ (Wl.half s d h).log.take n).length → s.start ≤ s.start / 52 * 52 + i → (acc ++ (Wl.half s d h).log.take n).getD i 0 = byteAt s (s.start / 52 * 52 + i) := by
  have hn2 := good_le said s.epoch (2 * s.count) h (Wl.half s d h)
  have h1 := H.low
  have h2 := H.len
  have hlen : (acc ++ (Wl.half s d h).log.take n).length = 52 * (h - s.start / 52) + n := by
    rw [List.length_append, List.length_take, hl, h2]; omega
  refine ⟨hlen, fun i hi hp => ?_⟩
  rw [hlen] at hi
  rw [getD_app]
  by_cases hi2 : i < acc.length
  · rw [if_pos hi2]; exact H.is i hi2 hp
  · rw [if_neg hi2, getD_take (by omega)]
    have e : s.start / 52 * 52 + i = h * 52 + (i - acc.length) := by omega
    rw [e] at hp ⊢
    exact (hD.half hcn h).is h _ H.low rfl (by omega) hp
theorem ls_start (s : S) (said : Nat) (d : Dk.Dev) : Ls s said d (s.start / 52) [] := ⟨Nat.le_refl _, Nat.le_add_right _ _, by rw [Nat.sub_self]; rfl, fun i hi => absurd hi (Nat.not_lt_zero i), fun g h1 h2 => by omega⟩
theorem Ls.next {s : S} {said : Nat} {d : Dk.Dev} {h : Nat} {acc : List Nat} (H : Ls s said d h acc) (hD : Dv s said d) (hcn : 0 < s.count) (hn : good said s.epoch (2 * s.count) h (Wl.half s d h) = 52) (hl : (Wl.half s d h).log.length = 52) (hh : h < s.start / 52 + 2 * s.count) :
    Ls s said d (h + 1) (acc ++ (Wl.half s d h).log.take 52) := by
  obtain ⟨h1, h2⟩ := H.part hD hcn hn hl
  have h3 := H.low
  refine ⟨by omega, by omega, by rw [h1]; omega, h2, fun g h4 h5 => ?_⟩
  rcases Nat.lt_or_ge g h with h6 | h6
  · exact H.full g h4 h6
  · obtain rfl : g = h := by omega
    exact hn
theorem Ls.most {s : S} {said : Nat} {d : Dk.Dev} {h : Nat} {acc : List Nat} (H : Ls s said d h acc) (hD : Dv s said d) (hcn : 0 < s.count) : h * 52 ≤ s.stop ∨ h = s.start / 52 := by
  rcases Nat.lt_or_ge (s.start / 52) h with h1 | h1
  · refine Or.inl ?_
    obtain ⟨g, rfl⟩ : ∃ g, h = g + 1 := ⟨h - 1, by omega⟩
    have h2 := H.full g (by omega) (by omega)
    have h3 := (hD.half hcn g).in_ g (by omega) rfl (by rw [h2]; decide)
    rw [h2] at h3
    omega
  · exact Or.inr (by have := H.low; omega)
theorem Ls.stop {s : S} {said : Nat} {d : Dk.Dev} {h n : Nat} {acc : List Nat} (H : Ls s said d h acc) (hD : Dv s said d) (hcn : 0 < s.count) (hx : Ex s) (hn : good said s.epoch (2 * s.count) h (Wl.half s d h) = n) (hlt : n < 52) (hl : (Wl.half s d h).log.length = 52) :
    LsEnd s said d (h * 52 + n) (acc ++ (Wl.half s d h).log.take n) := by
  obtain ⟨h1, h2⟩ := H.part hD hcn hn hl
  have h3 := H.low
  have hlo := (hD.half hcn h).lo h h3 rfl
  have hin := (hD.half hcn h).in_ h h3 rfl
  rw [hn] at hlo hin
  have hm := H.most hD hcn
  have hgl := hx.good.low
  have hgh := hx.good.high
  refine ⟨by rw [h1]; omega, h2, fun g h4 => ?_, by omega, ?_⟩
  · rcases Nat.lt_or_ge g h with h6 | h6
    · rw [H.full g h4 h6]; omega
    · rcases Nat.lt_or_ge h g with h7 | h7
      · have : (h + 1) * 52 ≤ g * 52 := Nat.mul_le_mul_right _ h7
        omega
      · obtain rfl : g = h := by omega
        rw [hn]; omega
  · rcases Nat.eq_zero_or_pos n with h0 | h0
    · rcases hm with hm | hm
      · omega
      · subst hm; omega
    · exact hin h0
theorem Ls.done {s : S} {said : Nat} {d : Dk.Dev} {h : Nat} {acc : List Nat} (H : Ls s said d h acc) (hD : Dv s said d) (hcn : 0 < s.count) (hx : Ex s) (hh : ¬ h < s.start / 52 + 2 * s.count) : LsEnd s said d (h * 52) acc := by
  have h3 := H.low
  have h4 := H.high
  have h5 := H.len
  obtain rfl : h = s.start / 52 + 2 * s.count := by omega
  have hm := H.most hD hcn
  have hr := hx.room
  have hgh := hx.good.high
  refine ⟨by omega, H.is, fun g h7 => ?_, by omega, by omega⟩
  rcases Nat.lt_or_ge g (s.start / 52 + 2 * s.count) with h6 | h6
  · rw [H.full g h7 h6]; omega
  · have : (s.start / 52 + 2 * s.count) * 52 ≤ g * 52 := Nat.mul_le_mul_right _ h6
    omega
theorem ext_zero {a b : List Nat} (h : a.length = b.length) (hh : ∀ i, i < a.length → a.getD i 0 = b.getD i 0) : a = b := by
  refine List.ext_getElem h fun i h1 h2 => ?_
  have := hh i h1
  simp only [List.getD_eq_getElem?_getD] at this
  rw [List.getElem?_eq_getElem h1, List.getElem?_eq_getElem h2] at this
  exact this
theorem getD_drop {a : List Nat} {n i : Nat} : (a.drop n).getD i 0 = a.getD (n + i) 0 := by
  rw [List.getD_eq_getElem?_getD, List.getElem?_drop, List.getD_eq_getElem?_getD]
theorem LsEnd.found {s : S} {said : Nat} {d : Dk.Dev} {E : Nat} {acc : List Nat} (H : LsEnd s said d E acc) (hg : Good s) : acc.drop (min acc.length (s.start % 52)) = (bytes s).take (E - s.start) ∧ s.start % 52 ≤ acc.length ∧ s.start ≤ E := by
  have h1 := H.len
  have h2 := hg.low
  have h3 := H.fl
  have h4 := H.st
  have h5 := bytes_length hg
  have h6 := Nat.div_add_mod s.start 52
  have h7 : s.start % 52 ≤ acc.length := by omega
  refine ⟨?_, h7, by omega⟩
  rw [Nat.min_eq_right h7]
  refine ext_zero ?_ fun i hi => ?_
  · rw [List.length_drop, List.length_take]; omega
  · rw [List.length_drop] at hi
    rw [getD_drop, H.is _ (by omega) (by omega), getD_take (by omega)]
    unfold byteAt
    rw [show s.start / 52 * 52 + (s.start % 52 + i) - s.start = i by omega]

/-- k records are found; what is behind them. -/
structure Fd (s : S) (E k : Nat) (b : List Nat) : Prop where
  kl : k ≤ s.recs.length
  e : placeOf s k ≤ E
  st : E ≤ s.stop
  fl : s.flushed ≤ E
  b : b = ((bytes s).take (E - s.start)).drop (placeOf s k - s.start)
theorem fd_start {s : S} (hx : Ex s) {E : Nat} (h1 : s.start ≤ E) (h2 : E ≤ s.stop) (h3 : s.flushed ≤ E) : Fd s E 0 ((bytes s).take (E - s.start)) := by
  have := plc_zero hx.good
  exact ⟨Nat.zero_le _, by omega, h2, h3, by rw [this, Nat.sub_self, List.drop_zero]⟩
theorem Fd.len {s : S} {E k : Nat} {b : List Nat} (h : Fd s E k b) (hx : Ex s) : b.length = E - placeOf s k := by
  have h1 := bytes_length hx.good
  have h2 := plc_le hx.good h.kl
  have h3 := h.st
  rw [h.b, List.length_drop, List.length_take]
  omega
theorem Fd.go {s : S} {E k : Nat} {b : List Nat} (h : Fd s E k b) (hx : Ex s) {x : Lr.R} (hk : k < s.recs.length) (hxk : s.recs[k] = x) (hf : placeOf s k + size x ≤ E) :
    Lr.readR b = (x, size x, 0) ∧ x.lsn = placeOf s k ∧ placeOf s (k + 1) = placeOf s k + size x ∧ Fd s E (k + 1) (b.drop (size x)) ∧ size x ≤ b.length := by
  have h1 := plc_next hx.good hk
  have h2 := bytes_at hx.good hk
  have h3 := plc_le hx.good h.kl
  have h4 := h.len hx
  rw [hxk] at h1 h2
  have hb : b = ((bytes s).drop (placeOf s k - s.start)).take (E - placeOf s k) := by
    rw [h.b, List.drop_take, show E - s.start - (placeOf s k - s.start) = E - placeOf s k by omega]
  obtain ⟨hM, hO⟩ := hx.good.ok x (by rw [← hxk]; exact List.getElem_mem _)
  have hl : (Lr.form x).length = size x := rfl
  have hIs : Lr.Is b x := by
    refine ⟨hM, hO, ((bytes s).drop (placeOf s (k + 1) - s.start)).take (E - placeOf s k - size x), ?_⟩
    rw [hb, h2, List.take_append, hl, List.take_of_length_le (by omega)]
  refine ⟨Lr.readR_of hIs, h1.2, h1.1, ⟨hk, by omega, h.st, h.fl, ?_⟩, by omega⟩
  rw [h.b, List.drop_drop, h1.1, show placeOf s k - s.start + size x = placeOf s k + size x - s.start by omega]
theorem Fd.halt {s : S} {E k : Nat} {b : List Nat} (h : Fd s E k b) (hx : Ex s) (hk : ∀ x, s.recs[k]? = some x → E < placeOf s k + size x) : Lr.readR b = (Lr.zero, 0, 4) ∧ s.flushed ≤ placeOf s k := by
  have h3 := plc_le hx.good h.kl
  have h4 := h.len hx
  have hst := h.st
  have hb : b = ((bytes s).drop (placeOf s k - s.start)).take (E - placeOf s k) := by
    rw [h.b, List.drop_take, show E - s.start - (placeOf s k - s.start) = E - placeOf s k by omega]
  rcases Nat.lt_or_ge k s.recs.length with hlt | hge
  · have h1 := plc_next hx.good hlt
    have h2 := bytes_at hx.good hlt
    have h5 := hk _ (List.getElem?_eq_getElem hlt)
    obtain ⟨x, hxx⟩ : ∃ x, s.recs[k] = x := ⟨_, rfl⟩
    rw [hxx] at h1 h2 h5
    have he := h.e
    obtain ⟨hM, hO⟩ := hx.good.ok x (by rw [← hxx]; exact List.getElem_mem _)
    have hl : (Lr.form x).length = size x := rfl
    refine ⟨Lr.readR_none fun y hy => ?_, ?_⟩
    · rw [hb, h2, List.take_append_of_le_length (by omega)] at hy
      exact Lr.cut_none hM _ (by omega) y hy
    · obtain ⟨j, hj, he⟩ := hx.edge
      have h6 := h.fl
      rcases Nat.lt_or_ge k j with h7 | h7
      · have := plc_mono hx.good (j := k + 1) (k := j) h7 hj
        omega
      · have := plc_mono hx.good h7 h.kl
        omega
  · have hk2 : k = s.recs.length := by have := h.kl; omega
    have h1 := plc_all s
    rw [← hk2] at h1
    have h2 := hx.good.high
    refine ⟨Lr.readR_none fun y hy => ?_, by omega⟩
    have h5 := (Lr.prefix_of hy).1
    have := Lr.form_length y
    omega
/-- What an opening finds. -/
def Hd (d : Dk.Dev) (s : S) : Prop := Ex s ∧ ∃ said, said ≤ s.stop ∧ Dv s said d
theorem Hd.crash {d : Dk.Dev} {s : S} (h : Hd d s) (ps : List Nat) : Hd (Dk.crash d ps) s := by
  obtain ⟨h1, said, h3, h2⟩ := h
  exact ⟨h1, said, h3, h2.crash ps⟩
theorem chain_lsn : ∀ {l : List Lr.R} {p q : Nat}, chain p l q → ∀ x ∈ l, p ≤ x.lsn ∧ x.lsn + size x ≤ q := by
  intro l p q h x hx
  obtain ⟨i, hi, rfl⟩ := List.getElem_of_mem hx
  have := chain_at h i hi
  exact ⟨this.1, this.2.1⟩
theorem good_cut {s : S} (h : Good s) {k : Nat} (hk : k ≤ s.recs.length) : Good (cut s k) :=
  ⟨(chain_split h.chain k hk).1, (plc_le h hk).1, Nat.le_refl _, fun x hx => h.ok x (List.mem_of_mem_take hx)⟩
theorem byteAt_cut {s : S} (h : Good s) {k : Nat} (hk : k ≤ s.recs.length) {p : Nat} (h1 : s.start ≤ p) (h2 : p < placeOf s k) : byteAt (cut s k) p = byteAt s p := by
  have e : bytes (cut s k) = (bytes s).take (placeOf s k - s.start) := ((bytes_take h hk).1).symm
  unfold byteAt
  rw [e]
  exact getD_take (by show p - s.start < _; omega)
theorem ex_cut {s : S} (h : Ex s) {k : Nat} (hk : k ≤ s.recs.length) (he : s.epoch ≤ 1000000) : Ex (cut s k) := by
  have h1 := plc_le h.good hk
  refine ⟨good_cut h.good hk, h.low, h.high, Nat.le_trans h1.2 h.room, ⟨(s.recs.take k).length, Nat.le_refl _, plc_all (cut s k)⟩, by show s.epoch + 1 < _; omega, h.pt⟩
/-- .. and what it leaves. -/
theorem LsEnd.cut {s : S} {said : Nat} {d : Dk.Dev} {E k : Nat} {acc : List Nat} (H : LsEnd s said d E acc) (hD : Dv s said d) (hx : Ex s) (hk : k ≤ s.recs.length) (hE : placeOf s k ≤ E) :
    Dv (cut s k) (placeOf s k) (Wl.told d s.at_ (head s.at_ s.count ⟨s.start, placeOf s k, s.point, s.epoch + 1⟩)) := by
  refine hD.told (t := Wl.cut s k) (e := placeOf s k) (by have := hx.low; omega) rfl rfl (Nat.le_refl _) (Nat.le_succ _) (fun h => absurd h (Nat.succ_ne_self _)) (Nat.le_refl _) rfl (fun p h1 h2 => byteAt_cut hx.good hk h1 h2) fun g hg => ?_
  have := H.lo g hg
  omega
theorem good_master {s : S} (h : Good s) {a : Nat} (hm : ∃ k, k ≤ s.recs.length ∧ placeOf s k = a) (h2 : a ≤ s.flushed) (p : Nat) : Good (master s a p) ∧ ∃ k, k ≤ s.recs.length ∧ placeOf s k = a ∧ (master s a p).recs = s.recs.drop k := by
  obtain ⟨k, hk, he⟩ := hm
  have h3 := chain_split h.chain k hk
  have hf : s.recs.filter (fun x => decide (a ≤ x.lsn)) = s.recs.drop k := by
    conv => lhs; rw [← List.take_append_drop k s.recs]
    rw [List.filter_append]
    have e1 : (s.recs.take k).filter (fun x => decide (a ≤ x.lsn)) = [] := by
      rw [List.filter_eq_nil_iff]
      intro x hx
      have h4 := chain_lsn h3.1 x hx
      have h5 := size_pos x
      rw [placeOf_eq] at he
      simp only [decide_eq_true_eq]
      omega
    have e2 : (s.recs.drop k).filter (fun x => decide (a ≤ x.lsn)) = s.recs.drop k := by
      rw [List.filter_eq_self]
      intro x hx
      have h4 := chain_lsn h3.2 x hx
      rw [placeOf_eq] at he
      simp only [decide_eq_true_eq]
      omega
    rw [e1, e2, List.nil_append]
  refine ⟨⟨?_, h2, h.high, fun x hx => h.ok x ?_⟩, k, hk, he, hf⟩
  · show chain a (s.recs.filter _) s.stop
    rw [hf, ← he]
    exact h3.2
  · exact (List.mem_filter.1 hx).1
theorem may_place {s : S} (h : Good s) {a p : Nat} (hm : MayMaster s a p) : ∃ k, k ≤ s.recs.length ∧ placeOf s k = a := by
  rcases hm.2.2.1 with e | ⟨x, hx, e⟩
  · exact ⟨s.recs.length, Nat.le_refl _, by rw [plc_all]; exact e.symm⟩
  · obtain ⟨i, hi, rfl⟩ := List.getElem_of_mem hx
    exact ⟨i, Nat.le_of_lt hi, by rw [← e]; exact (plc_next h hi).2.symm⟩
theorem master_dv {s : S} {said : Nat} {d : Dk.Dev} (hD : Dv s said d) (hx : Ex s) (hs : s.stop ≤ 1000000000000) {a p : Nat} (hm : MayMaster s a p) :
    Ex (master s a p) ∧ Dv (master s a p) s.flushed (Wl.told d s.at_ (head s.at_ s.count ⟨a, s.flushed, p, s.epoch⟩)) ∧ ∃ k, k ≤ s.recs.length ∧ placeOf s k = a ∧ (master s a p).recs = s.recs.drop k ∧ (bytes (master s a p)) = (bytes s).drop (a - s.start) := by
  obtain ⟨hG, k, hk, he, hr⟩ := good_master hx.good (may_place hx.good hm) hm.2.1 p
  have hb : bytes (master s a p) = (bytes s).drop (a - s.start) := by
    have e : bytes (master s a p) = (s.recs.drop k).flatMap Lr.form := by unfold bytes; rw [hr]
    rw [e, ← he, (bytes_take hx.good hk).2]
  have hle := hm.1
  refine ⟨⟨hG, hx.low, hx.high, ?_, ?_, hx.ep, ?_⟩, ?_, k, hk, he, hr, hb⟩
  · refine Nat.le_trans hx.room (Nat.mul_le_mul_right _ ?_)
    have : s.start / 52 ≤ a / 52 := Nat.div_le_div_right hle
    show s.start / 52 + 2 * s.count ≤ a / 52 + 2 * s.count
    omega
  · obtain ⟨j, hj, hje⟩ := hx.edge
    have hkj : k ≤ j ∨ s.flushed = a := by
      rcases Nat.lt_or_ge j k with h1 | h1
      · refine Or.inr ?_
        have := plc_mono hx.good (Nat.le_of_lt h1) hk
        have := hm.2.1
        omega
      · exact Or.inl h1
    rcases hkj with h1 | h1
    · refine ⟨j - k, by rw [hr, List.length_drop]; omega, ?_⟩
      show _ = s.flushed
      rw [← hje, placeOf_eq, placeOf_eq]
      unfold plc
      rw [hr, List.getElem?_drop, show k + (j - k) = j by omega]
      rfl
    · refine ⟨0, Nat.zero_le _, ?_⟩
      rw [plc_zero hG]
      exact h1.symm
  · show p < _
    have := hx.good.high
    rcases hm.2.2.2 with h1 | ⟨_, h1, _⟩
    · omega
    · omega
  · refine hD.told (t := master s a p) (e := s.flushed) (by have := hx.low; omega) rfl rfl hle (Nat.le_refl _) (fun _ => rfl) hx.good.high rfl (fun q h1 h2 => ?_) fun g hg => ?_
    · have h1 : a ≤ q := h1
      unfold byteAt
      rw [hb, getD_drop]
      show (bytes s).getD (a - s.start + (q - a)) 0 = _
      rw [show a - s.start + (q - a) = q - s.start by omega]
    · exact (hD.half (by have := hx.low; omega) g).lo g (Nat.le_trans (Nat.div_le_div_right hle) hg) rfl
theorem ex_app {s : S} (h : Ex s) {x : Lr.R} (hM : Lr.May (stamp s x)) (ho : Lr.Ok (stamp s x)) (hl : (size (stamp s x) : Int) ≤ left s) : Ex (app s x) := by
  refine ⟨good_app h.good hM ho, h.low, h.high, ?_, ?_, h.ep, h.pt⟩
  · show s.stop + size (stamp s x) ≤ (s.start / 52 + 2 * s.count) * 52
    unfold left at hl
    omega
  · obtain ⟨k, hk, he⟩ := h.edge
    refine ⟨k, by show k ≤ (s.recs ++ [_]).length; rw [List.length_append]; omega, ?_⟩
    show _ = s.flushed
    rw [← he]
    unfold placeOf
    show (match (s.recs ++ [stamp s x])[k]? with | some x => x.lsn | none => _) = _
    rcases Nat.lt_or_ge k s.recs.length with h1 | h1
    · rw [List.getElem?_append_left h1, List.getElem?_eq_getElem h1]
    · obtain rfl : k = s.recs.length := by omega
      rw [List.getElem?_append_right (Nat.le_refl _), Nat.sub_self, List.getElem?_eq_none (Nat.le_refl s.recs.length)]
      rfl
theorem ex_flush {s : S} (h : Ex s) : Ex (flush s) := ⟨good_flush h.good, h.low, h.high, h.room, ⟨s.recs.length, Nat.le_refl _, plc_all (flush s)⟩, h.ep, h.pt⟩
end Go.Proofs.YtafpjcobagofcaaGreat.Wl

namespace Go.Proofs.YtafpjcobagofcaaGreat.Wl
open Go.Proofs.YtafpjcobagofcaaGreat

/-- What is known of a log. -/
def kn (s : S) : Kn := ⟨s.start, s.flushed, s.point, s.epoch⟩
def waits (s : S) : List Nat := (bytes s).drop (s.flushed - s.start)
theorem waits_length {s : S} (h : Good s) : (waits s).length = s.stop - s.flushed := by
  have h1 := bytes_length h
  have h2 := h.low
  unfold waits
  rw [List.length_drop]; omega
theorem bytes_lt {s : S} (h : Good s) : ∀ x ∈ bytes s, x < 256 := by
  intro x hx
  obtain ⟨r, hr, hx⟩ := List.mem_flatMap.1 hx
  exact Lr.form_lt (h.ok r hr).2 (h.ok r hr).1.1 x hx
theorem waits_lt {s : S} (h : Good s) : ∀ x ∈ waits s, x < 256 := fun x hx => bytes_lt h x (List.mem_of_mem_drop hx)
end Go.Proofs.YtafpjcobagofcaaGreat.Wl
