/- A device that is on and not armed: no write or sync of it is refused; what a crash leaves where all that waits lasts, and where nothing does. Conditions: none. -/
import Derived.Test.YthjciddhghfcbaaDiskCopies
namespace Go.Proofs.Ythjciddhghfcbaa.Dk

structure Calm (n : Nat) (d : Dev) : Prop where
  own : Own d
  off : d.off = false
  armed : d.armed = 0
  sz : size d = n
  most : d.most = n
theorem calm_fresh {n : Nat} (h1 : 1 ≤ n) (h2 : n ≤ 65536) : Calm n (fresh n n) := ⟨own_fresh h1 h2 (Nat.le_refl _), rfl, rfl, by show (List.replicate n blank).length = n; rw [List.length_replicate], rfl⟩
theorem Calm.room {n : Nat} {d : Dev} (h : Calm n d) {i : Nat} (hi : i < n) : used d < d.most ∨ d.seen.getD i false = true := by
  cases hs : d.seen.getD i false with
  | true => exact Or.inr rfl
  | false =>
    have := used_lt h.own.ok (i := i) (by rw [h.sz]; exact hi) hs
    rw [h.sz] at this
    rw [h.most]
    exact Or.inl this
theorem Calm.write {n : Nat} {d : Dev} (h : Calm n d) {i : Nat} (hi : i < n) {b : List Nat} (hb : Sec b) : write d (i : Int) b = (put d i b, 0) ∧ Calm n (put d i b) :=
  ⟨write_fine h.off h.armed (by rw [h.sz]; exact hi) hb.1 (h.room hi), own_put h.own (by rw [h.sz]; exact hi) hb (h.room hi), h.off, h.armed, h.sz, h.most⟩
theorem Calm.sync {n : Nat} {d : Dev} (h : Calm n d) : sync d = (last d, 0) ∧ Calm n (last d) :=
  ⟨sync_fine h.off h.armed, own_last h.own, h.off, h.armed, by rw [last_size2 h.own.ok]; exact h.sz, h.most⟩
theorem Calm.crash {n : Nat} {d : Dev} (h : Calm n d) (ps : List Nat) : Calm n (crash d ps) :=
  ⟨own_crash h.own ps, rfl, rfl, by rw [crashed_size h.own.ok]; exact h.sz, h.most⟩
theorem Calm.step {d : Dev} (h : Calm 12 d) (o : Opr) : Calm 12 (stepW d o) := by
  obtain ⟨h1, h2⟩ := h.write (atN_lt (by decide) o.at_) (sec_secL o.fill)
  unfold stepW
  rw [h1]
  split
  · obtain ⟨h3, h4⟩ := h2.sync
    show Calm 12 (Dk.sync (put d (atN 12 o.at_) (secL o.fill))).1
    rw [h3]; exact h4
  · exact h2
theorem Calm.writes : ∀ (l : List Opr) {d : Dev}, Calm 12 d → Calm 12 (writesD d l)
  | [], _, h => h
  | o :: l, _, h => Calm.writes l (h.step o)

/-- Writes alone, no syncs. -/
def stepP (n : Nat) (d : Dev) (o : Opr) : Dev := put d (atN n o.at_) (secL o.fill)
def putsD (n : Nat) (d : Dev) (l : List Opr) : Dev := l.foldl (stepP n) d
theorem putsD_next (n : Nat) (d : Dev) {l : List Opr} {k : Nat} (h : k < l.length) : putsD n d (l.take (k + 1)) = stepP n (putsD n d (l.take k)) (l.getD k default) := by
  have e : l.getD k default = l[k] := by rw [List.getD_eq_getElem?_getD, List.getElem?_eq_getElem h]; rfl
  unfold putsD
  rw [List.take_succ_eq_append_getElem h, List.foldl_append, e]; rfl
theorem putsD_lasts (n : Nat) : ∀ (l : List Opr) (d : Dev), (putsD n d l).lasts = d.lasts
  | [], _ => rfl
  | o :: l, d => by rw [show putsD n d (o :: l) = putsD n (stepP n d o) l from rfl, putsD_lasts n l]; rfl
theorem Calm.puts : ∀ (l : List Opr) {d : Dev}, Calm 12 d → Calm 12 (putsD 12 d l)
  | [], _, h => h
  | o :: l, _, h => Calm.puts l (h.write (atN_lt (by decide) o.at_) (sec_secL o.fill)).2

/-- What is read of a device on which nothing waits. -/
theorem read_still {d : Dev} (ho : d.off = false) {n i : Nat} (hw : d.waits = List.replicate n none) (hi : i < size d) : read d (i : Int) = (d.lasts.getD i [], 0) := by
  rw [read_fine ho hi, hw, getD_replicate]; rfl
/-- The picks by which all lasts. -/
def ones : List Nat := [1, 5, 1, 1, 9, 1, 1, 1, 253, 1, 1, 1]
theorem ones_all : ∀ j, j < 12 → ones.getD j 0 % 4 = 1 := by decide
theorem crash_ones {d : Dev} (h : Calm 12 d) {i : Nat} (hi : i < 12) : (Dk.crash d ones).lasts.getD i [] = (last d).lasts.getD i [] := by
  have hi' : i < size d := by rw [h.sz]; exact hi
  rw [crash_lasts h.own.ok ones hi', last_lasts h.own.ok hi']
  cases hw : d.waits.getD i none with
  | none => rfl
  | some b =>
    have hc := cnt_le d i
    have h1 := ones_all (cnt d i) (by omega)
    show pick _ _ b = b
    unfold pick
    rw [if_neg (by omega), if_pos h1]
theorem crash_none {d : Dev} (h : Calm 12 d) {i : Nat} (hi : i < 12) : (Dk.crash d []).lasts.getD i [] = d.lasts.getD i [] := by
  have hi' : i < size d := by rw [h.sz]; exact hi
  rw [crash_lasts h.own.ok [] hi']
  cases hw : d.waits.getD i none with
  | none => rfl
  | some b => rfl
theorem Calm.sec {n : Nat} {d : Dev} (h : Calm n d) {i : Nat} (hi : i < n) : Sec (d.lasts.getD i []) := by
  have hl : i < d.lasts.length := by have := h.sz; unfold size at this; omega
  rw [List.getD_eq_getElem?_getD, List.getElem?_eq_getElem hl]
  exact h.own.ok.l1 _ (List.getElem_mem _)
/-- All that DiskAll reads. -/
theorem all_reads {d1 : Dev} (h1 : Calm 12 d1) (hw : d1.waits = List.replicate 12 none) (l : List Opr) {i : Nat} (hi : i < 12) :
    ∃ a c, a.length = 128 ∧ c.length = 128 ∧ read (last (putsD 12 d1 l)) (i : Int) = (a, 0) ∧ read (Dk.crash (putsD 12 d1 l) ones) (i : Int) = (a, 0) ∧ read (Dk.crash (putsD 12 d1 l) []) (i : Int) = (c, 0) ∧ read d1 (i : Int) = (c, 0) := by
  have h2 := h1.puts l
  have e1 := read_still (d := last (putsD 12 d1 l)) (n := size (putsD 12 d1 l)) (i := i) h2.sync.2.off rfl (by rw [h2.sync.2.sz]; exact hi)
  have e2 := read_still (d := Dk.crash (putsD 12 d1 l) ones) (n := size (putsD 12 d1 l)) (i := i) rfl rfl (by rw [(h2.crash ones).sz]; exact hi)
  have e3 := read_still (d := Dk.crash (putsD 12 d1 l) []) (n := size (putsD 12 d1 l)) (i := i) rfl rfl (by rw [(h2.crash []).sz]; exact hi)
  have e4 := read_still (d := d1) (n := 12) (i := i) h1.off hw (by rw [h1.sz]; exact hi)
  rw [crash_ones h2 hi] at e2
  rw [crash_none h2 hi, putsD_lasts] at e3
  exact ⟨_, _, (h2.sync.2.sec hi).1, (h1.sec hi).1, e1, e2, e3, e4⟩
end Go.Proofs.Ythjciddhghfcbaa.Dk
