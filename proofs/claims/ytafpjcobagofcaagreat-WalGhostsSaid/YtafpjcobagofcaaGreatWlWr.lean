/- A log's bytes that wait are written half by half, plainly: behind any crash the log is there as it was, and behind the sync all of it. Conditions: none. -/
import Derived.Test.YtafpjcobagofcaaGreatWlPuM
import Derived.Test.YtafpjcobagofcaaGreatWlDvM
namespace Go.Proofs.YtafpjcobagofcaaGreat.Wl
open Go.Proofs.YtafpjcobagofcaaGreat

theorem same_sec {n g h : Nat} (e : g / 2 = h / 2) : g % (2 * n) / 2 = h % (2 * n) / 2 := by
  rw [Nat.mod_mul_right_div_self, Nat.mod_mul_right_div_self, e]
/-- The last half of the log. -/
def lastH (s : S) : Nat := (s.stop - 1) / 52
structure WrIn (s : S) (g : Nat) : Prop where
  low : s.flushed / 52 ≤ g
  high : g ≤ lastH s
theorem WrIn.facts {s : S} {g : Nat} (h : WrIn s g) (hx : Ex s) (hfs : s.flushed < s.stop) : s.start / 52 ≤ g ∧ g < s.start / 52 + 2 * s.count ∧ g * 52 < s.stop ∧ s.flushed < (g + 1) * 52 := by
  have h1 := h.low
  have h2 := h.high
  have h3 := hx.room
  have h4 := hx.good.low
  unfold lastH at h2
  have h5 : s.start / 52 ≤ s.flushed / 52 := Nat.div_le_div_right h4
  refine ⟨by omega, ?_, by omega, by omega⟩
  have h6 : (s.stop - 1) / 52 < s.start / 52 + 2 * s.count := by
    rw [Nat.div_lt_iff_lt_mul (by decide)]
    omega
  omega
theorem WrIn.ok {s : S} {g : Nat} (h : WrIn s g) (hx : Ex s) (hfs : s.flushed < s.stop) (hs : s.stop ≤ 1000000000000) : NwOk s.flushed s.epoch (2 * s.count) (waits s) g := by
  obtain ⟨h1, h2, h3, h4⟩ := h.facts hx hfs
  have h5 := waits_length hx.good
  have h6 := hx.low
  refine ⟨by unfold oldOf; omega, by unfold swOf oldOf; omega, ?_, hx.ep⟩
  have h8 : g / (2 * s.count) ≤ g / 32 := Nat.div_le_div_left (by omega) (by decide)
  omega
/-- A half that is written is right, for the log as it lasts and as it will. -/
theorem nw_ok {s : S} {said g : Nat} {d : Dk.Dev} (h : WrIn s g) (hx : Ex s) (hD : Dv s said d) (hfs : s.flushed < s.stop) (_ : s.stop ≤ 1000000000000) (hl : (Wl.half s d g).log.length = 52) :
    HOk s said (g % (2 * s.count)) (nw s.flushed s.epoch (2 * s.count) (waits s) (Wl.half s d g) g) ∧ HOk (flush s) said (g % (2 * s.count)) (nw s.flushed s.epoch (2 * s.count) (waits s) (Wl.half s d g) g) := by
  obtain ⟨h1, h2, h3, h4⟩ := h.facts hx hfs
  have h5 := waits_length hx.good
  have hfill : (nw s.flushed s.epoch (2 * s.count) (waits s) (Wl.half s d g) g).fill = min 52 (s.stop - g * 52) := by
    show oldOf s.flushed g + freshOf s.flushed (waits s).length g = _
    unfold freshOf swOf oldOf
    omega
  have hby : ∀ i, i < (nw s.flushed s.epoch (2 * s.count) (waits s) (Wl.half s d g) g).fill → s.start ≤ g * 52 + i → (nw s.flushed s.epoch (2 * s.count) (waits s) (Wl.half s d g) g).log.getD i 0 = byteAt s (g * 52 + i) := by
    intro i hi hp
    have hi' : i < oldOf s.flushed g + freshOf s.flushed (waits s).length g := hi
    show (fill2 _ _ _ _ _).log.getD i 0 = _
    rw [fill2_at hl (by unfold freshOf oldOf; omega) (by unfold freshOf; omega) hi']
    have hlo := (hD.half (by have := hx.low; omega) g).lo g h1 rfl
    by_cases ho : i < oldOf s.flushed g
    · rw [if_pos ho]
      unfold oldOf at ho
      exact (hD.half (by have := hx.low; omega) g).is g i h1 rfl (by omega) hp
    · rw [if_neg ho]
      have hg := hx.good.low
      unfold waits byteAt
      rw [getD_drop]
      congr 1
      unfold swOf oldOf at *
      omega
  exact ⟨hok_new h1 h2 rfl rfl rfl hfill h3 hby hx.room hx.good.high, hok_new (s := flush s) h1 h2 rfl rfl rfl hfill h3 hby hx.room (Nat.le_refl _)⟩

/-- The halves from Flushed's up to (and without) h are written. -/
structure Wr (s : S) (said : Nat) (d : Dk.Dev) (h : Nat) : Prop where
  dv : Dv s said d
  new : ∀ g, WrIn s g → g < h → HOk (flush s) said (g % (2 * s.count)) (Wl.half s d g)
theorem wr_start {s : S} {said : Nat} {d : Dk.Dev} (h : Dv s said d) : Wr s said d (s.flushed / 52) := ⟨h, fun g hg h2 => absurd hg.low (by omega)⟩
theorem half_same {s : S} {d d' : Dk.Dev} (hl : d'.lasts = d.lasts) (hw : d'.waits = d.waits) (g : Nat) : Wl.half s d' g = Wl.half s d g := by
  unfold Wl.half eff
  rw [hl, hw]
theorem Wr.goes {s : S} {said h : Nat} {d : Dk.Dev} (H : Wr s said d h) : Wr s said (Dk.goes d) h := by
  obtain ⟨h1, h2, -, -⟩ := Dk.goes_same d
  exact ⟨H.dv.goes, fun g h3 h4 => by rw [half_same h1 h2]; exact H.new g h3 h4⟩
theorem Wr.put {s : S} {said h : Nat} {d : Dk.Dev} {b : List Nat} (H : Wr s said d h) (hx : Ex s) (hfs : s.flushed < s.stop) (hs : s.stop ≤ 1000000000000) (hh : WrIn s h)
    (hb : Sn s.flushed s.epoch (2 * s.count) (waits s) (eff d (s.at_ + 2 + h % (2 * s.count) / 2)) h (min (lastH s) (h / 2 * 2 + 1) + 1) b) : Wr s said (Dk.put d (s.at_ + 2 + h % (2 * s.count) / 2) b) (h / 2 * 2 + 2) := by
  have hD := H.dv
  have hc := hx.low
  have hfit := hD.fits
  have hj := sec_lt (n := s.count) (h := h) (by omega)
  have hlen : ∀ g, (Wl.half s d g).log.length = 52 := fun g => hfOf_len (eff_sec hD.ok (by have := sec_lt (n := s.count) (h := g) (by omega); omega)).1 (by omega)
  have hin : ∀ t, h ≤ t → t < min (lastH s) (h / 2 * 2 + 1) + 1 → WrIn s t := fun t h1 h2 => ⟨Nat.le_trans hh.low h1, by omega⟩
  have hsec : ∀ t, h ≤ t → t < min (lastH s) (h / 2 * 2 + 1) + 1 → t % (2 * s.count) / 2 = h % (2 * s.count) / 2 := fun t h1 h2 => same_sec (by omega)
  have hnew : ∀ t, h ≤ t → t < min (lastH s) (h / 2 * 2 + 1) + 1 → hfOf (hf b (t % 2)) = nw s.flushed s.epoch (2 * s.count) (waits s) (Wl.half s d t) t := by
    intro t h1 h2
    rw [hb.new t h1 h2]
    unfold Wl.half
    rw [hsec t h1 h2]
  have hk : ∀ k, k < 2 → HOk s said (2 * (h % (2 * s.count) / 2) + k) (hfOf (hf b k)) := by
    intro k hk
    by_cases hex : ∃ t, h ≤ t ∧ t < min (lastH s) (h / 2 * 2 + 1) + 1 ∧ t % 2 = k
    · obtain ⟨t, h1, h2, rfl⟩ := hex
      rw [hnew t h1 h2, ← hsec t h1 h2, ← sec_at]
      exact (nw_ok (hin t h1 h2) hx hD hfs hs (hlen t)).1
    · rw [hb.old k hk fun t h1 h2 e => hex ⟨t, h1, h2, e⟩]
      exact (hD.eff hj).hf hk
  have hw : s.at_ + 2 + h % (2 * s.count) / 2 < d.waits.length := by rw [hD.ok.w]; omega
  refine ⟨hD.put hj hb.sec ⟨hk 0 (by decide), hk 1 (by decide)⟩, fun g hg hlt => ?_⟩
  have hhalf : Wl.half s (Dk.put d (s.at_ + 2 + h % (2 * s.count) / 2) b) g = if h % (2 * s.count) / 2 = g % (2 * s.count) / 2 then hfOf (hf b (g % 2)) else Wl.half s d g := by
    unfold Wl.half
    rw [eff_put hw]
    by_cases e : h % (2 * s.count) / 2 = g % (2 * s.count) / 2
    · rw [if_pos (by omega), if_pos e]
    · rw [if_neg (by omega), if_neg e]
  rw [hhalf]
  by_cases hge : h ≤ g
  · have h2 : g < min (lastH s) (h / 2 * 2 + 1) + 1 := by have := hg.high; omega
    rw [if_pos (hsec g hge h2).symm, hnew g hge h2]
    exact (nw_ok hg hx hD hfs hs (hlen g)).2
  · by_cases e : h % (2 * s.count) / 2 = g % (2 * s.count) / 2
    · rw [if_pos e]
      have hno : ∀ t, h ≤ t → t < min (lastH s) (h / 2 * 2 + 1) + 1 → t % 2 ≠ g % 2 := by
        intro t h1 h2 e2
        have h3 := hsec t h1 h2
        have e3 : t % (2 * s.count) = g % (2 * s.count) := by rw [sec_at (n := s.count) (h := t), sec_at (n := s.count) (h := g), h3, e, e2]
        obtain ⟨f1, f2, -, -⟩ := (hin t h1 h2).facts hx hfs
        obtain ⟨f3, f4, -, -⟩ := hg.facts hx hfs
        have d1 := Nat.div_add_mod t (2 * s.count)
        have d2 := Nat.div_add_mod g (2 * s.count)
        have h4 : t / (2 * s.count) ≠ g / (2 * s.count) := fun e4 => by rw [e4, e3] at d1; omega
        have h5 : g / (2 * s.count) < t / (2 * s.count) := Nat.lt_of_le_of_ne (Nat.div_le_div_right (by omega)) (Ne.symm h4)
        have h6 : 2 * s.count * (g / (2 * s.count) + 1) ≤ 2 * s.count * (t / (2 * s.count)) := Nat.mul_le_mul_left _ h5
        rw [Nat.mul_succ] at h6
        omega
      rw [hb.old (g % 2) (by omega) hno]
      have := H.new g hg (by omega)
      unfold Wl.half at this
      rw [← e] at this
      exact this
    · rw [if_neg e]
      exact H.new g hg (by omega)
/-- .. and all of them, behind a sync. -/
theorem Wr.done {s : S} {said h : Nat} {d : Dk.Dev} (H : Wr s said d h) (hx : Ex s) (hfs : s.flushed < s.stop) (hh : lastH s < h) : Dv (flush s) said (Dk.last d) := by
  have hD := H.dv
  have hc := hx.low
  have hfit := hD.fits
  have hL := hD.last
  have hq : ∀ j, j < s.count → ∀ k, k < 2 → HOk (flush s) said (2 * j + k) (hfOf (hf (eff d (s.at_ + 2 + j)) k)) := by
    intro j hj k hk
    by_cases hex : ∃ g, WrIn s g ∧ g % (2 * s.count) = 2 * j + k
    · obtain ⟨g, hg, e⟩ := hex
      have h1 := H.new g hg (by have := hg.high; omega)
      rw [e] at h1
      have h2 := sec_at (n := s.count) (h := g)
      unfold Wl.half at h1
      rw [show g % (2 * s.count) / 2 = j by omega, show g % 2 = k by omega] at h1
      exact h1
    · refine ((hD.eff hj).hf hk).flushed fun g h1 h2 => ?_
      have hlo := ((hD.eff hj).hf hk).lo g h1 h2
      have hnot : ¬ WrIn s g := fun hg => hex ⟨g, hg, h2⟩
      have hg : g < s.flushed / 52 ∨ lastH s < g := by
        rcases Nat.lt_or_ge g (s.flushed / 52) with h3 | h3
        · exact Or.inl h3
        · rcases Nat.lt_or_ge (lastH s) g with h4 | h4
          · exact Or.inr h4
          · exact absurd ⟨h3, h4⟩ hnot
      unfold lastH at hg
      rcases hg with hg | hg
      · omega
      · omega
  have hz := Dk.last_size2 hD.ok
  refine ⟨hL.ok, hL.fits, hL.hl, hL.hw, fun j hj => ?_, fun j b hj hw => ?_⟩
  · show SecOk _ _ _ ((Dk.last d).lasts.getD (s.at_ + 2 + j) [])
    rw [Dk.last_lasts hD.ok (by have hj : j < s.count := hj; omega)]
    exact ⟨hq j hj 0 (by decide), hq j hj 1 (by decide)⟩
  · have hw : (Dk.none_ d).getD (s.at_ + 2 + j) none = some b := hw
    unfold Dk.none_ at hw
    rw [none_at] at hw; cases hw
/-- A device of which each sector may be written. -/
theorem near_write {n : Nat} {d : Dk.Dev} (h : Near n d) (ho : d.off = false) {i : Nat} (hi : i < n) {b : List Nat} (hb : Dk.Sec b) : Dk.write d (i : Int) b = (Dk.goes (Dk.put d i b), if (Dk.goes (Dk.put d i b)).off then 6 else 0) ∧ Near n (Dk.goes (Dk.put d i b)) := by
  have hsz := h.sz
  have h1 : ¬ (d.off = true) := by rw [ho]; decide
  have h2 : ¬ (Dk.bad d (i : Int) ∨ b.length ≠ 128) := by have := hb.1; unfold Dk.bad; omega
  have h3 : ¬ (d.seen.getD (i : Int).toNat false = false ∧ d.most ≤ Dk.used d) := by
    rw [Int.toNat_natCast]
    rintro ⟨h3, h4⟩
    have hl : i < d.seen.length := by rw [h.ok.s]; omega
    have h5 := Dk.count_set_new hl h3
    have h6 : (d.seen.set i true).count true ≤ (d.seen.set i true).length := List.count_le_length
    rw [List.length_set, h.ok.s] at h6
    have := h.most
    unfold Dk.used at h4
    omega
  refine ⟨?_, ?_⟩
  · unfold Dk.write
    rw [if_neg h1, if_neg h2, if_neg h3, Int.toNat_natCast]
  · have hg := Dk.goes_same (Dk.put d i b)
    exact ⟨Dk.ok_goes (Dk.ok_put h.ok i hb), by rw [Dk.goes_size]; exact hsz, by rw [hg.2.2.2]; exact h.most⟩
theorem calm_put {n : Nat} {d : Dk.Dev} (h : Calm n d) (i : Nat) (b : List Nat) : Calm n (Dk.goes (Dk.put d i b)) := by
  rw [Dk.goes_idle (d := Dk.put d i b) h.armed]
  exact ⟨h.off, h.armed, h.sz, h.most⟩
theorem near_sync {n : Nat} {d : Dk.Dev} (h : Near n d) (ho : d.off = false) : (Dk.sync d = (Dk.goes d, 6) ∧ Near n (Dk.goes d) ∧ ¬ Calm n d) ∨ (Dk.sync d = (Dk.last (Dk.goes d), 0) ∧ Near n (Dk.last (Dk.goes d)) ∧ (Calm n d → Calm n (Dk.last (Dk.goes d)))) := by
  have hg := Dk.goes_same d
  have hn : Near n (Dk.goes d) := ⟨Dk.ok_goes h.ok, by rw [Dk.goes_size]; exact h.sz, by rw [hg.2.2.2]; exact h.most⟩
  unfold Dk.sync
  rw [if_neg (by rw [ho]; decide)]
  cases hoff : (Dk.goes d).off with
  | true =>
    rw [if_pos rfl]
    refine Or.inl ⟨rfl, hn, fun hc => ?_⟩
    rw [Dk.goes_idle hc.armed, ho] at hoff
    cases hoff
  | false =>
    rw [if_neg (by decide)]
    refine Or.inr ⟨rfl, ⟨Dk.ok_last hn.ok, by rw [Dk.last_size2 hn.ok]; exact hn.sz, hn.most⟩, fun hc => ?_⟩
    rw [Dk.goes_idle hc.armed]
    exact ⟨hc.off, hc.armed, by rw [Dk.last_size2 h.ok]; exact hc.sz, hc.most⟩
end Go.Proofs.YtafpjcobagofcaaGreat.Wl
