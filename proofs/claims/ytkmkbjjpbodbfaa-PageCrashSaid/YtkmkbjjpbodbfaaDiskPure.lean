/- A device of sectors, plainly. Conditions: none. -/
namespace Go.Proofs.Ytkmkbjjpbodbfaa.Dk

/-- Sectors that last, those that wait, which were written; the most; armed with; is the power off? -/
structure Dev where
  lasts : List (List Nat)
  waits : List (Option (List Nat))
  seen : List Bool
  most : Nat
  armed : Nat
  off : Bool

def blank : List Nat := List.replicate 128 0
def size (d : Dev) : Nat := d.lasts.length
def fresh (n most : Nat) : Dev := ⟨List.replicate n blank, List.replicate n none, List.replicate n false, most, 0, false⟩
def used (d : Dev) : Nat := d.seen.count true

/-- An operation: does the power go at it? -/
def goes (d : Dev) : Dev := if 0 < d.armed then { d with armed := d.armed - 1, off := decide (d.armed - 1 = 0) } else d
def bad (d : Dev) (at_ : Int) : Prop := at_ < 0 ∨ (size d : Int) ≤ at_
instance (d : Dev) (a : Int) : Decidable (bad d a) := by unfold bad; infer_instance

def put (d : Dev) (i : Nat) (b : List Nat) : Dev := { d with waits := d.waits.set i (some b), seen := d.seen.set i true }
def write (d : Dev) (at_ : Int) (b : List Nat) : Dev × Nat :=
  if d.off then (d, 6) else if bad d at_ ∨ b.length ≠ 128 then (d, 2) else
    if d.seen.getD at_.toNat false = false ∧ d.most ≤ used d then (d, 5) else
      (goes (put d at_.toNat b), if (goes (put d at_.toNat b)).off then 6 else 0)
def read (d : Dev) (at_ : Int) : List Nat × Nat :=
  if d.off then ([], 6) else if bad d at_ then ([], 2) else
    ((d.waits.getD at_.toNat none).getD (d.lasts.getD at_.toNat []), 0)
def none_ (d : Dev) : List (Option (List Nat)) := List.replicate (size d) none
def last (d : Dev) : Dev := { d with lasts := List.zipWith (fun w l => w.getD l) d.waits d.lasts, waits := none_ d }
def sync (d : Dev) : Dev × Nat := if d.off then (d, 6) else if (goes d).off then (goes d, 6) else (last (goes d), 0)
def arm (d : Dev) (n : Int) : Dev × Nat := if d.off then (d, 6) else if n < 0 ∨ 1073741824 < n then (d, 2) else ({ d with armed := n.toNat }, 0)
def pick (p : Nat) (old new : List Nat) : List Nat :=
  if p % 4 = 0 then old else if p % 4 = 1 then new else if p % 4 = 2 then new.take 64 ++ old.drop 64 else old.take 64 ++ new.drop 64
def crashL : List (Option (List Nat)) → List (List Nat) → List Nat → List (List Nat)
  | none :: ws, l :: ls, ps => l :: crashL ws ls ps
  | some b :: ws, l :: ls, ps => pick (ps.headD 0) l b :: crashL ws ls ps.tail
  | _, _, _ => []
def crash (d : Dev) (ps : List Nat) : Dev := { d with lasts := crashL d.waits d.lasts ps, waits := none_ d, off := false, armed := 0 }
/-- The numbers of those that wait, from number i on. -/
def listL : Nat → List (Option (List Nat)) → List Nat
  | _, [] => []
  | i, none :: ws => listL (i + 1) ws
  | i, some _ :: ws => i :: listL (i + 1) ws
def list (d : Dev) : List Nat := listL 0 d.waits

/-- A sector's bytes. -/
def Sec (b : List Nat) : Prop := b.length = 128 ∧ ∀ x ∈ b, x < 256

/-- A device is whole. -/
structure Ok (d : Dev) : Prop where
  w : d.waits.length = size d
  s : d.seen.length = size d
  l1 : ∀ b ∈ d.lasts, Sec b
  w1 : ∀ b, some b ∈ d.waits → Sec b

theorem sec_blank : Sec blank := ⟨by simp [blank], fun x hx => by rw [List.eq_of_mem_replicate hx]; decide⟩

theorem ok_fresh (n most : Nat) : Ok (fresh n most) where
  w := by simp [fresh, size]
  s := by simp [fresh, size]
  l1 := fun b hb => by rw [List.eq_of_mem_replicate hb]; exact sec_blank
  w1 := fun b hb => by have := List.eq_of_mem_replicate hb; cases this

theorem goes_same (d : Dev) : (goes d).lasts = d.lasts ∧ (goes d).waits = d.waits ∧ (goes d).seen = d.seen ∧ (goes d).most = d.most := by
  unfold goes; split <;> exact ⟨rfl, rfl, rfl, rfl⟩
theorem ok_goes {d : Dev} (h : Ok d) : Ok (goes d) := by
  obtain ⟨h1, h2, h3, h4⟩ := goes_same d
  exact ⟨by unfold size; rw [h1, h2]; exact h.w, by unfold size; rw [h1, h3]; exact h.s, by rw [h1]; exact h.l1, by rw [h2]; exact h.w1⟩
theorem ok_put {d : Dev} (h : Ok d) (i : Nat) {b : List Nat} (hb : Sec b) : Ok (put d i b) where
  w := by show (d.waits.set i (some b)).length = _; rw [List.length_set]; exact h.w
  s := by show (d.seen.set i true).length = _; rw [List.length_set]; exact h.s
  l1 := h.l1
  w1 := fun c hc => by
    rcases List.mem_or_eq_of_mem_set hc with hc | hc
    · exact h.w1 c hc
    · cases hc; exact hb
theorem sec_pick {p : Nat} {a b : List Nat} (ha : Sec a) (hb : Sec b) : Sec (pick p a b) := by
  have mix : ∀ u v : List Nat, Sec u → Sec v → Sec (u.take 64 ++ v.drop 64) := fun u v hu hv => by
    refine ⟨by rw [List.length_append, List.length_take, List.length_drop, hu.1, hv.1]; rfl, fun x hx => ?_⟩
    rcases List.mem_append.1 hx with hx | hx
    · exact hu.2 x (List.mem_of_mem_take hx)
    · exact hv.2 x (List.mem_of_mem_drop hx)
  unfold pick
  split
  · exact ha
  split
  · exact hb
  split
  · exact mix b a hb ha
  · exact mix a b ha hb
theorem crashL_length : ∀ (ws : List (Option (List Nat))) (ls : List (List Nat)) (ps : List Nat), ws.length = ls.length → (crashL ws ls ps).length = ls.length
  | [], [], _, _ => rfl
  | none :: ws, l :: ls, ps, h => by simp only [crashL, List.length_cons] at *; rw [crashL_length ws ls ps (by omega)]
  | some b :: ws, l :: ls, ps, h => by simp only [crashL, List.length_cons] at *; rw [crashL_length ws ls ps.tail (by omega)]
  | [], _ :: _, _, h => by simp at h
  | _ :: _, [], _, h => by simp at h
theorem crashL_sec : ∀ (ws : List (Option (List Nat))) (ls : List (List Nat)) (ps : List Nat), (∀ b ∈ ls, Sec b) → (∀ b, some b ∈ ws → Sec b) → ∀ b ∈ crashL ws ls ps, Sec b
  | [], _, _, _, _, b, hb => by simp [crashL] at hb
  | none :: _, [], _, _, _, b, hb => by simp [crashL] at hb
  | some _ :: _, [], _, _, _, b, hb => by simp [crashL] at hb
  | none :: ws, l :: ls, ps, h1, h2, b, hb => by
    rw [crashL] at hb
    rcases List.mem_cons.1 hb with rfl | hb
    · exact h1 _ (List.mem_cons_self ..)
    · exact crashL_sec ws ls ps (fun b hb => h1 b (List.mem_cons_of_mem _ hb)) (fun b hb => h2 b (List.mem_cons_of_mem _ hb)) b hb
  | some c :: ws, l :: ls, ps, h1, h2, b, hb => by
    rw [crashL] at hb
    rcases List.mem_cons.1 hb with rfl | hb
    · exact sec_pick (h1 _ (List.mem_cons_self ..)) (h2 c (List.mem_cons_self ..))
    · exact crashL_sec ws ls ps.tail (fun b hb => h1 b (List.mem_cons_of_mem _ hb)) (fun b hb => h2 b (List.mem_cons_of_mem _ hb)) b hb
theorem ok_crash {d : Dev} (h : Ok d) (ps : List Nat) : Ok (crash d ps) := by
  have hl : (crashL d.waits d.lasts ps).length = d.lasts.length := crashL_length _ _ _ h.w
  exact ⟨by show (none_ d).length = (crashL d.waits d.lasts ps).length; rw [hl]; simp [none_, size], by show d.seen.length = (crashL d.waits d.lasts ps).length; rw [hl]; exact h.s,
    crashL_sec _ _ _ h.l1 h.w1, fun b hb => by have := List.eq_of_mem_replicate (show some b ∈ List.replicate (size d) none from hb); cases this⟩
theorem ok_last {d : Dev} (h : Ok d) : Ok (last d) := by
  have hl : (List.zipWith (fun (w : Option (List Nat)) l => w.getD l) d.waits d.lasts).length = d.lasts.length := by
    rw [List.length_zipWith]; have := h.w; unfold size at this; omega
  refine ⟨by show (none_ d).length = (List.zipWith _ d.waits d.lasts).length; rw [hl]; simp [none_, size], by show d.seen.length = (List.zipWith _ d.waits d.lasts).length; rw [hl]; exact h.s, fun b hb => ?_, fun b hb => by have := List.eq_of_mem_replicate (show some b ∈ List.replicate (size d) none from hb); cases this⟩
  obtain ⟨i, hi, rfl⟩ := List.getElem_of_mem (show b ∈ List.zipWith (fun (w : Option (List Nat)) l => w.getD l) d.waits d.lasts from hb)
  rw [List.getElem_zipWith]
  rw [List.length_zipWith] at hi
  cases hw : d.waits[i]'(by omega) with
  | none => exact h.l1 _ (List.getElem_mem _)
  | some c => exact h.w1 c (by rw [← hw]; exact List.getElem_mem _)
theorem ok_write {d : Dev} (h : Ok d) (a : Int) (b : List Nat) (hb : ∀ x ∈ b, x < 256) : Ok (write d a b).1 := by
  unfold write
  split
  · exact h
  split
  · exact h
  · next hn =>
    split
    · exact h
    · exact ok_goes (ok_put h _ ⟨by have : ¬ b.length ≠ 128 := fun e => hn (Or.inr e); omega, hb⟩)
theorem ok_sync {d : Dev} (h : Ok d) : Ok (sync d).1 := by
  unfold sync
  split
  · exact h
  split
  · exact ok_goes h
  · exact ok_last (ok_goes h)
theorem ok_arm {d : Dev} (h : Ok d) (n : Int) : Ok (arm d n).1 := by
  unfold arm
  split
  · exact h
  split
  · exact h
  · exact ⟨h.w, h.s, h.l1, h.w1⟩
end Go.Proofs.Ytkmkbjjpbodbfaa.Dk
