/- A half as a call answers it: in a block of its own; its length. Conditions: none. What stands between two places of the log, by the program. Conditions: the log stands on its device; all of it lasts, or all of it waits. -/
import Derived.Test.YtafpjcobagofcaaGreatWlRd
import Derived.Test.YtafpjcobagofcaaGreatWlDvM
import Derived.Test.YtafpjcobagofcaaGreatWlPL
namespace Go.Proofs.YtafpjcobagofcaaGreat
open Go.RowKit

/-- A half that came out of a call lies in a block of its own. -/
theorem new_half (w : World) (x : Wl.Hf) : HfAt ((w.alloc (.cells HfZ 93)).setRow w.heap.size (HfC x)) w.heap.size x ∧ Below w.heap.size w ((w.alloc (.cells HfZ 93)).setRow w.heap.size (HfC x)) :=
  ⟨setRow_heap _ _ _ _ _ _ (heap_alloc_last _ _), (below_new1 _ _).trans ((setRow_touch _ _).below (base := w.heap.size) (fun i hi => by rw [hi]; exact Nat.le_refl _) (by simp))⟩
theorem half_len {d : Dk.Dev} (ok : Dk.Ok d) {s : Wl.S} (hfit : s.at_ + s.count + 2 ≤ Dk.size d) (hc : 0 < s.count) (g : Nat) : (Wl.half s d g).log.length = 52 ∧ (∀ b ∈ (Wl.half s d g).log, b < 256) ∧ (Wl.half s d g).fill < 4294967296 := by
  have h1 := Wl.sec_lt (n := s.count) (h := g) hc
  have hs := Wl.eff_sec ok (i := s.at_ + 2 + g % (2 * s.count) / 2) (by omega)
  have h64 := Wl.hf_length hs.1 (k := g % 2) (by omega)
  have hlt : ∀ x ∈ Wl.hf (Wl.eff d (s.at_ + 2 + g % (2 * s.count) / 2)) (g % 2), x < 256 := fun x hx => hs.2 x (List.mem_of_mem_drop (List.mem_of_mem_take hx))
  refine ⟨?_, fun b hb => hlt b (List.mem_of_mem_drop hb), ?_⟩
  · show (List.drop 12 _).length = 52
    rw [List.length_drop, h64]
  · have := Cod.num_lt (((Wl.hf (Wl.eff d (s.at_ + 2 + g % (2 * s.count) / 2)) (g % 2)).drop 8).take 4) (fun x hx => hlt x (List.mem_of_mem_drop (List.mem_of_mem_take hx)))
    rw [List.length_take, List.length_drop, h64] at this
    exact this
end Go.Proofs.YtafpjcobagofcaaGreat

namespace Go.Proofs.YtafpjcobagofcaaGreat
open Go.RowKit

/-- What was read so far from a on. -/
structure Wl.Bw (s : Wl.S) (a b h : Nat) (acc : List Nat) : Prop where
  low : a / 52 ≤ h
  len : acc.length = 52 * (h - a / 52)
  is : ∀ i, i < acc.length → a ≤ a / 52 * 52 + i → a / 52 * 52 + i < b → acc.getD i 0 = Wl.byteAt s (a / 52 * 52 + i)
theorem Wl.bw_start (s : Wl.S) (a b : Nat) : Wl.Bw s a b (a / 52) [] := ⟨Nat.le_refl _, by rw [Nat.sub_self]; rfl, fun i hi => absurd hi (Nat.not_lt_zero i)⟩
theorem Wl.Bw.next {s : Wl.S} {said a b h : Nat} {d : Dk.Dev} {acc : List Nat} (H : Wl.Bw s a b h acc) (hD : Wl.Dv s said d) (hcn : 0 < s.count) (ha : s.start ≤ a) (hb : b ≤ s.flushed) (hl : (Wl.half s d h).log.length = 52) : Wl.Bw s a b (h + 1) (acc ++ (Wl.half s d h).log) := by
  have h1 := H.low
  have h2 := H.len
  refine ⟨by omega, by rw [List.length_append, hl, h2]; omega, fun i hi hp hq => ?_⟩
  rw [List.length_append, hl] at hi
  rw [Wl.getD_app]
  by_cases hi2 : i < acc.length
  · rw [if_pos hi2]; exact H.is i hi2 hp hq
  · rw [if_neg hi2]
    have e : a / 52 * 52 + i = h * 52 + (i - acc.length) := by omega
    rw [e] at hp hq ⊢
    have hlo := (hD.half hcn h).lo h (Nat.le_trans (Nat.div_le_div_right ha) h1) rfl
    exact (hD.half hcn h).is h _ (Nat.le_trans (Nat.div_le_div_right ha) h1) rfl (by omega) (by omega)
theorem Wl.Bw.done {s : Wl.S} {a b h : Nat} {acc : List Nat} (H : Wl.Bw s a b h acc) (hg : Wl.Good s) (ha : s.start ≤ a) (hab : a ≤ b) (hb : b ≤ s.stop) (hh : ¬ h * 52 < b) :
    a % 52 ≤ acc.length ∧ b - a ≤ acc.length - a % 52 ∧ (acc.drop (a % 52)).take (b - a) = ((Wl.bytes s).drop (a - s.start)).take (b - a) := by
  have h1 := H.low
  have h2 := H.len
  have h3 := Wl.bytes_length hg
  refine ⟨by omega, by omega, ?_⟩
  refine Wl.ext_zero (by rw [List.length_take, List.length_take, List.length_drop, List.length_drop]; omega) fun i hi => ?_
  rw [List.length_take, List.length_drop] at hi
  rw [Wl.getD_take (by omega), Wl.getD_take (by omega), Wl.getD_drop, Wl.getD_drop, H.is _ (by omega) (by omega) (by omega)]
  unfold Wl.byteAt
  rw [show a / 52 * 52 + (a % 52 + i) - s.start = a - s.start + i by omega]
set_option maxHeartbeats 3200000 in
set_option maxRecDepth 20000 in
theorem wlBetween_any {w : World} {L B m1 m2 said a b : Nat} {s : Wl.S} {pl wa : Value} {dn : Bool} {d : Dk.Dev} {f : List Nat} (h : LogAt w L (Wl.kn s) B s.at_ s.count pl wa dn) (hP : PDev w B m1 m2 d) (ho : d.off = false) (hx : Wl.Ex s) (hD : Wl.Dv s said d) (hwa : Own 0 w wa (Wl.waits s)) (hs : s.stop ≤ 1000000000000)
    (ha : s.start ≤ a) (hab : a < b) (hb : b ≤ s.stop) (hf : ((Wl.bytes s).drop (a - s.start)).take (b - a) = f) (hcut : s.flushed ≤ a ∨ b ≤ s.flushed) :
    Calls Tryz.prog 29 #[.pointer (some ⟨L, 0, none⟩), .int .u64 (a : Int), .int .u64 (b : Int)] w fun e w' => ∃ u, e = .returned (.tuple #[u, .int .i64 0]) ∧ Bts w' u f ∧ Below w.heap.size w w' := by
  have c1 := h.cell 1 (v := .int .u64 (s.flushed : Int)) rfl
  have hgl := hx.good.low
  have hgh := hx.good.high
  by_cases hfa : s.flushed ≤ a
  · have hwl := Wl.waits_length hx.good
    rcases hwa.form with ⟨-, e0⟩ | ⟨gw, cw, rfl, -, hc1, hc2, -⟩
    · rw [e0, List.length_nil] at hwl; omega
    unfold maxLen at hc2
    have c8 := h.cell 8 (v := .slice (some ⟨gw, 0, none⟩) (Wl.waits s).length cw) rfl
    obtain ⟨p, hp⟩ : ∃ p, p = a - s.flushed := ⟨_, rfl⟩
    obtain ⟨q, hq⟩ : ∃ q, q = b - s.flushed := ⟨_, rfl⟩
    have hbt := (hwa.bts.drop p (by omega))
    have e1 : Value.slice (some ⟨gw, 0 + p, none⟩) ((Wl.waits s).length - p) (cw - p) = .slice (some ⟨gw, p, none⟩) ((Wl.waits s).drop p).length (cw - p) := by rw [List.length_drop, Nat.zero_add]
    rw [e1] at hbt
    have hbt := hbt.take (q - p) (by rw [List.length_drop]; omega)
    have ef : ((Wl.waits s).drop p).take (q - p) = f := by
      rw [← hf]
      unfold Wl.waits
      rw [List.drop_drop, show s.flushed - s.start + p = a - s.start by omega, show q - p = b - a by omega]
    rw [ef] at hbt
    have hcmp : (s.flushed : Int) ≤ (a : Int) := by omega
    have hw1 : IntKind.u64.wrap ((a : Int) - (s.flushed : Int)) = (p : Int) := by rw [IntWalk.u64_in _ (by omega)]; omega
    have hw2 : IntKind.u64.wrap ((b : Int) - (s.flushed : Int)) = (q : Int) := by rw [IntWalk.u64_in _ (by omega)]; omega
    have hpq : (p : Int) ≤ (q : Int) := by omega
    have hqc : (q : Int) ≤ (cw : Int) := by omega
    have hpq2 : p ≤ q := by omega
    have hqc2 : q ≤ cw := by omega
    have hpc : ¬ cw = p := by omega
    have HBT := Lib.hid hbt
    clear h hP ho hx hD hwa hs ha hab hb hf hcut hgl hgh hfa hwl hc1 hc2 hp hq hbt e1 ef
    generalize (Wl.waits s).length = n at *
    go_enter Tryz.func29, Tryz.ntmps29
    go_upto_region 2 with (fail)
    go_quiet (fail)
    have HB : Hid (Below w.heap.size w (w.drewN nq)) := below_drewN _ _ _
    have HBT2 := Lib.hid (HBT.out.below HB.out)
    generalize w.drewN nq = w1 at *
    go_wp2_with fail
    go_ret2
    exact ⟨_, rfl, HBT2.out, HB.out⟩
  · have hbf : b ≤ s.flushed := hcut.resolve_left hfa
    have hcmp : ¬ (s.flushed : Int) ≤ (a : Int) := by omega
    have HLG := Lib.hid h
    have HPD := Lib.hid hP
    have HOF := Lib.hid ho
    have HX := Lib.hid hx
    have HDV := Lib.hid hD
    have HFF := Lib.hid hf
    have HAB : Hid (s.start ≤ a ∧ a < b ∧ b ≤ s.flushed ∧ b ≤ s.stop ∧ b ≤ 1000000000000) := ⟨ha, hab, hbf, hb, by omega⟩
    have HC : Hid (16 ≤ s.count ∧ s.count ≤ 8192) := ⟨hx.low, hx.high⟩
    obtain ⟨f0, hf0⟩ : ∃ f, f = a / 52 := ⟨_, rfl⟩
    have h1 : IntKind.u64.wrap ((a : Int) / 52) = (f0 : Int) := by rw [IntWalk.u64_in _ (by omega)]; omega
    have HF0 := Lib.hid hf0
    clear h hP ho hx hD hwa hs ha hab hb hf hcut hgl hgh hfa hbf hf0
    go_enter Tryz.func29, Tryz.ntmps29
    go_wp2_with fail
    clear c1 hcmp
    go_loopw [8, 9] (fun v i wr => ∃ (t : Nat) (acc : List Nat), i = .int .u64 (t : Int) ∧ Own w.heap.size wr v acc ∧ Wl.Bw s a b t acc ∧ t ≤ b / 52 + 1 ∧ Below w.heap.size w wr) (fun _ i _ => b / 52 + 2 - (intOf i).toNat)
    case atStart => exact ⟨f0, [], rfl, own_nil _ _, by rw [HF0.out]; exact Wl.bw_start s a b, by have := HF0.out; have := HAB.out; omega, Below.refl _ _⟩
    case round =>
      obtain ⟨t, acc, rfl, ho, hbw, htb, hb⟩ := hrel
      have HO := Lib.hid ho
      have HBW := Lib.hid hbw
      have HB := Lib.hid hb
      have HTB := Lib.hid htb
      clear ho hbw htb hb
      obtain ⟨tm, htm⟩ : ∃ x, x = t * 52 := ⟨_, rfl⟩
      have hmul : IntKind.u64.wrap ((t : Int) * 52) = (tm : Int) := by have h1 := HTB.out; have h2 := HAB.out; rw [IntWalk.u64_in _ (by omega)]; omega
      have HTM := Lib.hid htm
      clear htm
      by_cases hlt : tm < b
      · have hi : (tm : Int) < (b : Int) := by omega
        have HTL : Hid (t ≤ b / 52) := by have := HTM.out; show _ ≤ _; omega
        have hhf : Calls Tryz.prog 54 #[.pointer (some ⟨L, 0, none⟩), .int .u64 (t : Int)] wr fun e w' => e = .returned (.tuple #[HfV (Wl.half s d t), .int .i64 0]) ∧ Below wr.heap.size wr w' :=
          wlHalf_any (HLG.out.below HB.out) (HPD.out.below HB.out) HOF.out (by have := HC.out; omega) HC.out.2 (by have := HDV.out.fits; omega) t (by have := HTL.out; have := HAB.out; omega)
        have hln := half_len HPD.out.own.ok HDV.out.fits (by have := HC.out; omega) t
        have hnx := HBW.out.next HDV.out (by have := HC.out; omega) HAB.out.1 HAB.out.2.2.1 hln.1
        obtain ⟨pv, cv, rfl, -, -, -⟩ := HO.out.bts.form
        have HHF := Lib.hid hhf
        have HLN := Lib.hid hln
        have HNX := Lib.hid hnx
        clear hhf hln hnx hlt
        generalize Wl.half s d t = x at *
        go_wp2_with fail
        refine HHF.out.mono ?_
        rintro e w3 ⟨rfl, hb3⟩
        have HB3 := Lib.hid (HB.out.trans (hb3.mono HB.out.size))
        have HO3 := Lib.hid (HO.out.below hb3)
        clear hb3 HHF
        dsimp only
        iterate 13 go_step
        refine wpList_store_row rfl 93 (.tmp 10) (.tmp 50) rfl w3.heap.size _ rfl rfl _ _ (heap_alloc_last _ _) (hf_info HLN.out.1) (by rw [hfC_size, HLN.out.1]; rfl) (hfC_ones _) ?_
        obtain ⟨hn1, hn2⟩ := new_half w3 x
        generalize (w3.alloc (.cells HfZ 93)).setRow w3.heap.size (HfC x) = W4 at hn1 hn2 ⊢
        have HB4 := Lib.hid (HB3.out.trans (hn2.mono HB3.out.size))
        have HO4 := Lib.hid (HO3.out.below hn2)
        have hbn := hn1.bts HLN.out.1 HLN.out.2.1
        obtain ⟨Q, hQ⟩ : ∃ Q, Q = w3.heap.size := ⟨_, rfl⟩
        rw [← hQ] at hbn ⊢
        have HBN := Lib.hid hbn
        clear hn1 hn2 hQ hbn
        go_upto_region 10 with (fail)
        iterate 10 go_step
        refine wpList_append_Own rfl (.tmp 55) (.tmp 57) rfl w.heap.size (.slice pv acc.length cv) acc rfl HO4.out (.slice (some ⟨Q, 3, none⟩) 52 52) x.log rfl HBN.out (by rw [HLN.out.1]; have h1 := HBW.out.len; have h2 := HTL.out; have h3 := HAB.out; omega) HB4.out.size ?_
        intro v6 w6 hO6 hb6 hg6
        obtain ⟨acc2, hacc⟩ : ∃ a, a = acc ++ x.log := ⟨_, rfl⟩
        rw [← hacc] at hO6
        obtain ⟨p6, c6, rfl⟩ := hO6.bts.slice
        have HB6 := Lib.hid (HB4.out.trans hb6)
        have HO6 := Lib.hid hO6
        have HNX6 : Hid (Wl.Bw s a b (t + 1) acc2) := by show Wl.Bw s a b (t + 1) acc2; rw [hacc]; exact HNX.out
        have h6 := IntWalk.u64_in ((t : Int) + 1) (by have := HTL.out; have := HAB.out; omega)
        clear hb6 hg6 hO6 hacc
        generalize acc2.length = n2 at *
        go_wp2_with fail
        go_roundw
        case rel => exact ⟨t + 1, acc2, by go_num, HO6.out, HNX6.out, by have := HTL.out; omega, HB6.out⟩
        case measure =>
          have h1 := HTL.out
          simp only [intOf, Int.toNat_natCast]
          omega
      · have hi : ¬ (tm : Int) < (b : Int) := by omega
        obtain ⟨d1, d2, d3⟩ := HBW.out.done HX.out.good HAB.out.1 (Nat.le_of_lt HAB.out.2.1) HAB.out.2.2.2.1 (by rw [← HTM.out]; exact hlt)
        rw [HFF.out] at d3
        have hab := HAB.out
        rcases HO.out.form with ⟨rfl, e0⟩ | ⟨gb, cb, rfl, -, hc1, hc2, -⟩
        · rw [e0, List.length_nil] at d2; omega
        unfold maxLen at hc2
        obtain ⟨r, hr⟩ : ∃ r, r = a % 52 := ⟨_, rfl⟩
        obtain ⟨k, hk⟩ : ∃ k, k = b - a := ⟨_, rfl⟩
        rw [← hr, ← hk] at d3
        rw [← hr] at d1 d2
        rw [← hk] at d2
        have hbt := HO.out.bts.drop r d1
        have e1 : Value.slice (some ⟨gb, 0 + r, none⟩) (acc.length - r) (cb - r) = .slice (some ⟨gb, r, none⟩) (acc.drop r).length (cb - r) := by rw [List.length_drop, Nat.zero_add]
        rw [e1] at hbt
        have hbt := hbt.take k (by rw [List.length_drop]; exact d2)
        rw [d3] at hbt
        have HBT := Lib.hid hbt
        have hr1 : (a : Int) % 52 = (r : Int) := by omega
        have hk1 : IntKind.u64.wrap ((b : Int) - (a : Int)) = (k : Int) := by rw [IntWalk.u64_in _ (by omega)]; omega
        have hrn : (r : Int) ≤ (acc.length : Int) := by omega
        have hrc2 : r ≤ cb := by omega
        have hkc2 : k ≤ cb - r := by omega
        have hkc : (k : Int) ≤ (cb : Int) - (r : Int) := by omega
        have hne : ¬ cb = r := by omega
        have hrn2 : r ≤ acc.length := d1
        clear d1 d2 d3 hab hc1 hc2 hr hk hbt e1 hlt
        generalize acc.length = n at *
        go_wp2_with fail
        go_ret2
        exact ⟨_, rfl, HBT.out, HB.out⟩
end Go.Proofs.YtafpjcobagofcaaGreat
