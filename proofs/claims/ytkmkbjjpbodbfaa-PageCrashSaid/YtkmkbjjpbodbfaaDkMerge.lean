/- A map of sectors laid over another: the library's maps.Copy in this program. Conditions: two maps of one length. -/
import Derived.Test.YtkmkbjjpbodbfaaDkRead
namespace Go.Proofs.Ytkmkbjjpbodbfaa
open Go.RowKit Go.Maps

/-- One list laid over another. -/
def overL (Ls Ld : List (Option (List Nat))) : List (Option (List Nat)) := List.zipWith (fun (w : Option (List Nat)) l => w <|> l) Ls Ld
theorem overL_length {Ls Ld : List (Option (List Nat))} (h : Ls.length = Ld.length) : (overL Ls Ld).length = Ld.length := by unfold overL; rw [List.length_zipWith]; omega
theorem gz_out {L : List (Option (List Nat))} {z : Int} (h : z < 0 ∨ (L.length : Int) ≤ z) : gz L z = none := by
  unfold gz
  split
  · rw [List.getD_eq_getElem?_getD, List.getElem?_eq_none (by omega)]; rfl
  · rfl
theorem gz_over {Ls Ld : List (Option (List Nat))} (h : Ls.length = Ld.length) (z : Int) : gz (overL Ls Ld) z = (gz Ls z <|> gz Ld z) := by
  by_cases hz : z < 0 ∨ (Ld.length : Int) ≤ z
  · rw [gz_out (L := overL Ls Ld) (by rw [overL_length h]; exact hz), gz_out (L := Ls) (by rw [h]; exact hz), gz_out hz]; rfl
  · rw [gz_pos (by omega), gz_pos (by omega), gz_pos (by omega)]
    exact Dk.getD_zipWith _ _ _ _ none none none (by omega) (by omega)
theorem merged_over {D : DataW (List Nat)} {Ls Ld : List (Option (List Nat))} {left : Lit → Bool} (h : Ls.length = Ld.length) (hM : Merged D (mapD Ld) (mapD Ls) left) (hl : ∀ k, left k = false)
    (hc : CanonK (KeysOf Try.prog 3) D) : D = mapD (overL Ls Ld) := by
  refine mapD_ext hc (fun z => ?_) (fun z zd b hb => ?_)
  · rw [hM.1, hl, has_mapD, has_mapD, gz_over h]
    cases gz Ls z <;> cases gz Ld z <;> rfl
  · rw [hM.2, hl, has_mapD, at_mapD, at_mapD]
    rw [gz_over h] at hb
    cases hs : gz Ls z with
    | none => rw [hs] at hb; rw [show gz Ld z = some b from hb]; rfl
    | some c => rw [hs] at hb; cases hb; rfl

set_option maxHeartbeats 3200000 in
set_option maxRecDepth 20000 in
theorem copy_maps (m1 m2 : Nat) (Ld Ls : List (Option (List Nat))) (w : World) (hd : MapAt w m1 Ld) (hs : MapAt w m2 Ls) (hne : m1 ≠ m2) (hlen : Ls.length = Ld.length) :
    Calls Try.prog 41 #[.map (some m1), .map (some m2)] w fun e w' => e = .returned (.tuple #[]) ∧ MapAt w' m1 (overL Ls Ld) ∧ Touch (· = m1) w w' := by
  have hbd := hd.lt
  have hbs := hs.lt
  have hl1 := hd.len
  have hl2 := hs.len
  have hz := zero_arr.1
  have hcs := count_le Ls
  have hcd := count_le Ld
  have hsz := size_mapD Ls
  have ho1 := hd.own
  have ho2 := hs.own
  generalize hnd : Ld.countP Option.isSome = nd at *
  generalize hns : Ls.countP Option.isSome = ns at *
  clear hd hs
  go_enter Try.func41, Try.ntmps41
  go_wp2_with (first
    | (at_range; refine wpList_range_own _ rfl _ 68 rfl 3 77 ikey Try.underlying68 secR m2 ns _ rfl ho2 ?_; intro w0 hrg0 hg0 hs0)
    | go_in)
  go_frame
  go_loopw [8] (fun _ wr => ∃ (left : Lit → Bool) (cnt : Nat) (Dout : DataW (List Nat)), wr.ranges Try.prog 3 secR m2 w.heap.size ns (mapD Ls) left cnt ∧ cnt ≤ ns ∧
      wr.ownsMap Try.prog 3 secR m1 (nd + (ns - cnt)) Dout ∧ Merged Dout (mapD Ld) (mapD Ls) left ∧ w.grownBy wr (some m1))
    (fun _ wr => wr.rangeLeft m2 w.heap.size)
  case atStart =>
    rw [hsz] at hrg0
    exact ⟨_, _, mapD Ld, hrg0, Nat.le_refl _, (ho1.kept hg0 (by simp)).mono (by omega), merged_start _ _, hg0.but _⟩
  case round =>
    obtain ⟨left, cnt, Dout, hrg, hcs, hout, hM, hgw⟩ := hrel
    go_wp2_with (first
      | (at_next; refine wpList_next_ranges _ rfl _ rfl 3 ikey secR id av (fun key _ _ => ⟨key, rfl⟩) (fun v y hv => by obtain ⟨b, _, h, _⟩ := secR_inv hv; exact ⟨b, h⟩) m2 w.heap.size ns _ _ _ rfl hrg ?_ ?_)
      | go_in)
    · intro hc0 hl0
      go_wp2
      go_end0
      subst hc0
      have e := merged_over hlen hM hl0 (hout.canonK ikey)
      subst e
      exact ⟨rfl, .of hout (by rw [overL_length hlen]; exact hl1), .of_grown hgw rfl⟩
    · intro x c kl yd yp w1 cnt1 hkey hlk hv hat hrg1 hlt hg1 hs1 hen
      have hsc : Dk.Sec c := by
        obtain ⟨b, hb, e, _⟩ := secR_inv hv
        rw [av_inj e]; exact hb
      have HSC := Lib.hid hsc
      have HRG := Lib.hid hrg1
      have HV := Lib.hid hv
      have HAT := Lib.hid hat
      have HK := Lib.hid hkey
      have hout1 := hout.kept hg1 (fun e => by have := Option.some.inj e; omega)
      have HO1 := Lib.hid hout1
      have HRG0 := Lib.hid hrg
      have HGW := Lib.hid (hgw.andThen hg1 (fun j hj => .inl (by cases hj; exact Nat.le_refl _)))
      have HSI := Lib.hid (show w.heap.size ≤ w1.heap.size by rw [hs1]; exact hgw.size)
      have HLT := Lib.hid hlt
      have HMM := Lib.hid hM
      have hlb := hrg1.lt
      clear hs1 hsc hrg1 hv hat hkey hlk hout1 hout hrg hgw hg1 hlt hM
      go_upto_region 2 with (fail)
      iterate 16 go_step
      have hrow : SecAt (w1.alloc (.cells (bytesV Dk.blank).toArray 77)) w1.heap.size Dk.blank := heap_alloc_last _ _
      refine wpList_store_sec rfl (.tmp 5) (.tmp 12) rfl w1.heap.size rfl _ rfl _ hrow (by decide) HSC.out.1 ?_
      intro w2 r2 t2
      have hb2 : Below w1.heap.size w1 w2 := ((Below.refl _ w1).alloc (Nat.le_refl _) _).trans (t2.below (fun i hi => by rw [hi]; exact Nat.le_refl _) (by simp))
      have hg2 := grownBy_below hb2 none
      have R2 := Lib.hid r2
      have HG2 := Lib.hid hg2
      clear r2 t2 hrow hb2 hg2 hz hen
      go_upto_region 3 with (fail)
      iterate 7 go_step
      refine wpList_load_sec rfl (.tmp 5) rfl w1.heap.size rfl _ R2.out HSC.out.1 ?_
      have hout2 := HO1.out.kept HG2.out (by simp)
      refine wpList_mapUpdate_own _ rfl _ _ _ 68 rfl 3 77 ikey Try.underlying68 secR m1 _ _ rfl hout2 (by unfold maxLen; omega) _ _ _ rfl rfl HK.out yd yp HV.out ?_
      intro w3 hout3 hg3
      have hrg3 := (HRG.out.kept HG2.out (by simp) (by simp)).kept hg3 (fun e => hne (Option.some.inj e).symm) (fun e => by have := Option.some.inj e; omega)
      have HO3 := Lib.hid hout3
      have HG3 := Lib.hid hg3
      have HRG3 := Lib.hid hrg3
      clear hout2 hout3 hg3 hrg3
      go_frame
      go_wp2_with fail
      go_roundw
      case rel =>
        have h1 := HLT.out
        exact ⟨_, cnt1, _, HRG3.out, by omega, HO3.out.mono (by omega), merged_step HMM.out HO1.out.isMap (ikey.key HK.out) HAT.out, (HGW.out.andThen HG2.out (fun j hj => by cases hj)).andThen HG3.out (fun j hj => .inr hj)⟩
      case measure => rw [HRG3.out.left_eq, HRG0.out.left_eq]; exact HLT.out
end Go.Proofs.Ytkmkbjjpbodbfaa
