/- The bytes of the log that last, from Start on, by the program. Conditions: the log stands on the device. -/
import Derived.Test.YtafpjcobagofcaaGreatWlNewM
import Derived.Test.YtafpjcobagofcaaGreatWlGood
namespace Go.Proofs.YtafpjcobagofcaaGreat
open Go.RowKit

/-- What is answered. -/
def LsA (s : Wl.S) (said : Nat) (d : Dk.Dev) (w : World) (e : Ending) (w' : World) : Prop := ∃ E acc u, Wl.LsEnd s said d E acc ∧ e = .returned (.tuple #[u, .int .i64 0]) ∧ Bts w' u ((Wl.bytes s).take (E - s.start)) ∧ (∀ g, u.ownBlock = some g → w.heap.size ≤ g) ∧ Below w.heap.size w w'
set_option maxHeartbeats 6400000 in
set_option maxRecDepth 20000 in
theorem wlLasting_any {w : World} {L B m1 m2 said : Nat} {s : Wl.S} {pl wa : Value} {dn : Bool} {d : Dk.Dev} (h : LogAt w L ⟨s.start, said, s.point, s.epoch⟩ B s.at_ s.count pl wa dn) (hP : PDev w B m1 m2 d) (ho : d.off = false) (hx : Wl.Ex s) (hD : Wl.Dv s said d) (hsd : said ≤ s.stop) (hs : s.stop ≤ 1000000000000) :
    Calls Tryz.prog 45 #[.pointer (some ⟨L, 0, none⟩)] w fun e w' => LsA s said d w e w' := by
  have HLG := Lib.hid h
  have HPD := Lib.hid hP
  have HOF := Lib.hid ho
  have HX := Lib.hid hx
  have HDV := Lib.hid hD
  have HSD := Lib.hid hsd
  have HS := Lib.hid hs
  have hcl := hx.low
  have hch := hx.high
  have hst : s.start ≤ 1000000000000 := by have h1 := hx.good.low; have h2 := hx.good.high; omega
  have HST : Hid (s.start ≤ 1000000000000) := hst
  have HC : Hid (16 ≤ s.count ∧ s.count ≤ 8192) := ⟨hcl, hch⟩
  have c0 := h.cell 0 (v := .int .u64 (s.start : Int)) rfl
  obtain ⟨f0, hf0⟩ : ∃ f, f = s.start / 52 := ⟨_, rfl⟩
  have h1 : IntKind.u64.wrap ((s.start : Int) / 52) = (f0 : Int) := by rw [IntWalk.u64_in _ (by omega)]; omega
  have HF0 := Lib.hid hf0
  have HF0L : Hid (f0 ≤ 1000000000000) := by show _ ≤ _; omega
  obtain ⟨n2, hn2⟩ : ∃ n, n = 2 * s.count := ⟨_, rfl⟩
  obtain ⟨fe, hfe⟩ : ∃ f, f = f0 + n2 := ⟨_, rfl⟩
  have h2 : IntKind.u64.wrap ((f0 : Int) + (n2 : Int)) = (fe : Int) := by rw [IntWalk.u64_in _ (by omega)]; omega
  have hhal := fun wr (hl : LogAt wr L ⟨s.start, said, s.point, s.epoch⟩ B s.at_ s.count pl wa dn) => wlHalves_any hl hch
  rw [← hn2] at hhal
  have HHAL := Lib.hid hhal
  have HN2 := Lib.hid hn2
  have HFE := Lib.hid hfe
  clear h hP ho hx hD hsd hs hcl hch hst hf0 hn2 hfe hhal
  go_enter Tryz.func45, Tryz.ntmps45
  go_wp2_with fail
  clear c0
  go_loopw [4, 6] (fun b i wr => ∃ (t : Nat) (acc : List Nat), i = .int .u64 (t : Int) ∧ Own w.heap.size wr b acc ∧ Wl.Ls s said d t acc ∧ Below w.heap.size w wr) (fun _ i _ => fe + 1 - (intOf i).toNat)
  case atStart => exact ⟨f0, [], rfl, own_nil _ _, by rw [HF0.out]; exact Wl.ls_start s said d, Below.refl _ _⟩
  case round =>
    obtain ⟨t, acc, rfl, ho, hls, hb⟩ := hrel
    have HO := Lib.hid ho
    have HLS := Lib.hid hls
    have HB := Lib.hid hb
    have HCL := Lib.hid (HHAL.out wr (HLG.out.below hb))
    have HTT : Hid (f0 ≤ t ∧ t ≤ fe) := by
      have h1 := hls.low
      have h2 := hls.high
      rw [← HF0.out, ← HN2.out, ← HFE.out] at h2
      rw [← HF0.out] at h1
      exact ⟨h1, h2⟩
    obtain ⟨pv, cv, rfl, -, -, -⟩ := ho.bts.form
    clear ho hls hb
    by_cases hlt : t < fe
    · have hi : (t : Int) < (fe : Int) := by omega
      have HLT : Hid (t < s.start / 52 + 2 * s.count) := by show _ < _; rw [← HF0.out, ← HN2.out, ← HFE.out]; exact hlt
      have HTL : Hid (t ≤ 10000000000000) := by have h1 := HF0L.out; have h2 := HN2.out; have h3 := HC.out; have h4 := HFE.out; show _ ≤ _; omega
      have hhf : Calls Tryz.prog 54 #[.pointer (some ⟨L, 0, none⟩), .int .u64 (t : Int)] wr fun e w' => e = .returned (.tuple #[HfV (Wl.half s d t), .int .i64 0]) ∧ Below wr.heap.size wr w' :=
        wlHalf_any (HLG.out.below HB.out) (HPD.out.below HB.out) HOF.out (by have := HC.out; omega) HC.out.2 (by have := HDV.out.fits; omega) t (by have := HTL.out; omega)
      have hln := half_len HPD.out.own.ok HDV.out.fits (by have := HC.out; omega) t
      have HHF := Lib.hid hhf
      have HLN := Lib.hid hln
      obtain ⟨n, hn⟩ : ∃ n, Wl.good said s.epoch (2 * s.count) t (Wl.half s d t) = n := ⟨_, rfl⟩
      have hgd : ∀ w2, Below w.heap.size w w2 → Calls Tryz.prog 69 #[.pointer (some ⟨L, 0, none⟩), .int .u64 (t : Int), HfV (Wl.half s d t)] w2 fun e w' => e = .returned (.int .i64 ((Wl.good said s.epoch (2 * s.count) t (Wl.half s d t) : Nat) : Int)) ∧ Below w2.heap.size w2 w' := fun w2 hb2 =>
        wlGood_any (HLG.out.below hb2) (by have := HC.out; omega) HC.out.2 t HTL.out (Nat.lt_of_le_of_lt (Nat.div_le_div_left (show 32 ≤ 2 * s.count by have := HC.out; omega) (by decide)) (by have h1 := HTL.out; have h2 := HF0L.out; have h3 := HTT.out; have h4 := HFE.out; have h5 := HN2.out; have h6 := HC.out; have h7 := HST.out; have h8 := HF0.out; omega)) _ HLN.out.2.2 (by show said ≤ _; have h1 := HSD.out; have h2 := HS.out; omega)
      rw [hn] at hgd
      have HGD := Lib.hid hgd
      have HN := Lib.hid hn
      have HN52 : Hid (n ≤ 52) := by show _ ≤ _; rw [← hn]; exact Wl.good_le _ _ _ _ _
      clear hhf hln hn hgd hlt
      generalize hxg : Wl.half s d t = x at *
      have HXG := Lib.hid hxg
      clear hxg
      go_wp2_with (go_at_call 35; refine HCL.out.mono ?_; rintro e w' ⟨rfl, rfl⟩)
      refine HHF.out.mono ?_
      rintro e w3 ⟨rfl, hb3⟩
      have HB3 := Lib.hid (HB.out.trans (hb3.mono HB.out.size))
      have HO3 := Lib.hid (HO.out.below hb3)
      clear hb3 HHF HCL
      dsimp only
      have hn52 : (n : Int) ≤ 52 := by have := HN52.out; omega
      have hn52b : n ≤ 52 := HN52.out
      iterate 13 go_step
      refine wpList_store_row rfl 93 (.tmp 7) (.tmp 29) rfl w3.heap.size _ rfl rfl _ _ (heap_alloc_last _ _) (hf_info HLN.out.1) (by rw [hfC_size, HLN.out.1]; rfl) (hfC_ones _) ?_
      obtain ⟨hn1, hn2⟩ := new_half w3 x
      generalize (w3.alloc (.cells HfZ 93)).setRow w3.heap.size (HfC x) = W4 at hn1 hn2 ⊢
      have HB4 := Lib.hid (HB3.out.trans (hn2.mono HB3.out.size))
      have HO4 := Lib.hid (HO3.out.below hn2)
      have HX4 := Lib.hid hn1
      obtain ⟨Q, hQ⟩ : ∃ Q, Q = w3.heap.size := ⟨_, rfl⟩
      rw [← hQ] at HX4 ⊢
      have HCG := Lib.hid (HGD.out W4 HB4.out)
      clear hn1 hn2 hQ HGD
      go_upto_region 9 with (fail)
      iterate 7 go_step
      refine wpList_load_row rfl 93 (.tmp 7) rfl Q rfl _ _ _ _ HX4.out Tryz.underlying93 rfl (hf_info HLN.out.1) ?_
      go_wp2_with fail
      refine HCG.out.mono ?_
      rintro e w5 ⟨rfl, hb5⟩
      have HB5 := Lib.hid (HB4.out.trans (hb5.mono HB4.out.size))
      have HO5 := Lib.hid (HO4.out.below hb5)
      have HX5 : Hid (HfAt w5 Q x) := (hb5.block Q (lt_of_block HX4.out)).trans HX4.out
      clear hb5 HCG
      go_upto_region 10 with (fail)
      have hn52 : (n : Int) ≤ 52 := by have := HN52.out; omega
      have hn52b : n ≤ 52 := HN52.out
      iterate 13 go_step
      have hbn : Bts w5 (.slice (some ⟨Q, 3, none⟩) n 52) (x.log.take n) := by
        have h0 := HX5.out.bts HLN.out.1 HLN.out.2.1
        have e52 : Value.slice (some ⟨Q, 3, none⟩) 52 52 = .slice (some ⟨Q, 3, none⟩) x.log.length 52 := by rw [HLN.out.1]
        rw [e52] at h0
        exact h0.take n (by rw [HLN.out.1]; exact HN52.out)
      refine wpList_append_Own rfl (.tmp 38) (.tmp 41) rfl w.heap.size (.slice pv acc.length cv) acc rfl HO5.out (.slice (some ⟨Q, 3, none⟩) n 52) (x.log.take n) rfl hbn (by rw [List.length_take, HLN.out.1]; have h1 := HLS.out.len; have h2 := HLT.out; have h3 := HC.out; omega) HB5.out.size ?_
      intro v6 w6 hO6 hb6 hg6
      obtain ⟨acc2, hacc⟩ : ∃ a, a = acc ++ x.log.take n := ⟨_, rfl⟩
      rw [← hacc] at hO6
      obtain ⟨p6, c6, rfl⟩ := hO6.bts.slice
      have HB6 := Lib.hid (HB5.out.trans hb6)
      have HO6 := Lib.hid hO6
      have HACC := Lib.hid hacc
      have HCP : Hid (0 < s.count) := by have := HC.out; show _ < _; omega
      have HGH : Hid (Wl.good said s.epoch (2 * s.count) t (Wl.half s d t) = n) := by show _ = _; rw [HXG.out]; exact HN.out
      have HHL : Hid ((Wl.half s d t).log.length = 52) := by show _ = _; rw [HXG.out]; exact HLN.out.1
      clear hb6 hg6 hO6 hacc hbn hn52b
      by_cases hn : n < 52
      · have hnI : (n : Int) < 52 := by omega
        have hend := HLS.out.stop HDV.out HCP.out HX.out HGH.out hn HHL.out
        rw [HXG.out, ← HACC.out] at hend
        generalize t * 52 + n = E at hend
        have HEND := Lib.hid hend
        clear hend hn
        go_upto_region 11 with (fail)
        clear hn52
        go_upto_region 12 with (fail)
        clear hnI hi
        have hfd := HEND.out.found HX.out.good
        have hlo := HEND.out.len
        obtain ⟨m, hm⟩ : ∃ m, m = min acc2.length (s.start % 52) := ⟨_, rfl⟩
        rw [← hm] at hfd
        have hm1 : min (acc2.length : Int) ((s.start % 52 : Nat) : Int) = (m : Int) := by omega
        have hmle : (m : Int) ≤ (acc2.length : Int) := by omega
        have hml2 : m ≤ acc2.length := by omega
        obtain ⟨rm, hrm⟩ : ∃ r, r = s.start % 52 := ⟨_, rfl⟩
        have hm0 : (s.start : Int) % 52 = (rm : Int) := by omega
        have hm3 := IntWalk.i64_in (rm : Int) (by omega)
        have hm4 := IntWalk.wrap64_in (rm : Int) (by omega)
        rw [← hrm] at hm1
        have HFD := Lib.hid hfd.1
        have HML := Lib.hid hml2
        have c0 := (HLG.out.below HB6.out).cell 0 (v := .int .u64 (s.start : Int)) rfl
        rcases HO6.out.form with ⟨hv, e0⟩ | ⟨gb, cb, hv, hgb, hcb1, hcb2, -⟩
        · rw [hv]
          have hz : m = 0 := by rw [e0] at hml2; simpa using hml2
          subst hz
          rw [e0] at hm1
          have hm1 : min (0 : Int) (rm : Int) = 0 := hm1
          have HE0 := Lib.hid e0
          have hmle0 : (0 : Int) ≤ 0 := Int.le_refl _
          clear hv e0 hfd hm hrm hlo hml2 hmle
          go_wp2_with fail
          go_ret2
          exact ⟨_, _, _, HEND.out, rfl, by rw [← HFD.out, HE0.out]; exact bts_none _, (fun g h => by cases h), HB6.out⟩
        · rw [hv]
          unfold maxLen at hcb2
          have hbt := hv ▸ HO6.out.bts
          have hbd := hbt.drop m hml2
          rw [HFD.out, Nat.zero_add] at hbd
          have HBD := Lib.hid hbd
          have HGB : Hid (w.heap.size ≤ gb) := hgb
          have HBT := Lib.hid hbt
          generalize hnn : acc2.length = nn at *
          have HNN := Lib.hid hnn
          by_cases hcm : cb = m
          · have hnm : nn = m := by omega
            have HZ : Hid ((Wl.bytes s).take (E - s.start) = []) := by
              show _ = _
              rw [← HFD.out]
              exact List.drop_eq_nil_of_le (by rw [HNN.out]; omega)
            clear hv hfd hm hrm hlo hbt hbd hnn
            go_wp2_with fail
            go_ret2
            exact ⟨_, _, _, HEND.out, rfl, by rw [HZ.out]; exact bts_zero _ _ _ _ (by omega) (by omega), (fun g h => by have h2 : some gb = some g := h; rw [← Option.some.inj h2]; exact HGB.out), HB6.out⟩
          · clear hv hfd hm hrm hlo hbt hbd hnn
            go_wp2_with fail
            go_ret2
            exact ⟨_, _, _, HEND.out, rfl, HBD.out, (fun g h => by have h2 : some gb = some g := h; rw [← Option.some.inj h2]; exact HGB.out), HB6.out⟩
      · have hnE : n = 52 := by have := HN52.out; omega
        have hnI : ¬ (n : Int) < 52 := by omega
        subst hnE
        have hnx := HLS.out.next HDV.out HCP.out HGH.out HHL.out HLT.out
        rw [HXG.out, ← HACC.out] at hnx
        have HNX := Lib.hid hnx
        have h6 := IntWalk.u64_in ((t : Int) + 1) (by have := HTL.out; omega)
        clear hnx
        go_wp2_with fail
        go_roundw
        case rel => exact ⟨t + 1, acc2, by go_num, HO6.out, HNX.out, HB6.out⟩
        case measure => have h1 := HTT.out; simp [intOf]; omega
    · have hi : ¬ (t : Int) < (fe : Int) := by omega
      have hend := HLS.out.done HDV.out (by have := HC.out; omega) HX.out (by rw [← HF0.out, ← HN2.out, ← HFE.out]; exact hlt)
      generalize t * 52 = E at hend
      have HEND := Lib.hid hend
      clear hend hlt
      have hfd := HEND.out.found HX.out.good
      have hlo := HEND.out.len
      obtain ⟨m, hm⟩ : ∃ m, m = min acc.length (s.start % 52) := ⟨_, rfl⟩
      rw [← hm] at hfd
      have hm1 : min (acc.length : Int) ((s.start % 52 : Nat) : Int) = (m : Int) := by omega
      have hmle : (m : Int) ≤ (acc.length : Int) := by omega
      have hml2 : m ≤ acc.length := by omega
      obtain ⟨rm, hrm⟩ : ∃ r, r = s.start % 52 := ⟨_, rfl⟩
      have hm0 : (s.start : Int) % 52 = (rm : Int) := by omega
      have hm3 := IntWalk.i64_in (rm : Int) (by omega)
      have hm4 := IntWalk.wrap64_in (rm : Int) (by omega)
      rw [← hrm] at hm1
      have HFD := Lib.hid hfd.1
      have HML := Lib.hid hml2
      have c0 := (HLG.out.below HB.out).cell 0 (v := .int .u64 (s.start : Int)) rfl
      rcases HO.out.form with ⟨hv, e0⟩ | ⟨gb, cb, hv, hgb, hcb1, hcb2, -⟩
      · rw [hv]
        have hz : m = 0 := by rw [e0] at hml2; simpa using hml2
        subst hz
        rw [e0] at hm1
        have hm1 : min (0 : Int) (rm : Int) = 0 := hm1
        have HE0 := Lib.hid e0
        have hmle0 : (0 : Int) ≤ 0 := Int.le_refl _
        clear hv e0 hfd hm hrm hlo hml2 hmle
        go_wp2_with (go_at_call 35; refine HCL.out.mono ?_; rintro e w' ⟨rfl, rfl⟩)
        go_ret2
        exact ⟨_, _, _, HEND.out, rfl, by rw [← HFD.out, HE0.out]; exact bts_none _, (fun g h => by cases h), HB.out⟩
      · rw [hv]
        unfold maxLen at hcb2
        have hbt := hv ▸ HO.out.bts
        have hbd := hbt.drop m hml2
        rw [HFD.out, Nat.zero_add] at hbd
        have HBD := Lib.hid hbd
        have HGB : Hid (w.heap.size ≤ gb) := hgb
        have HBT := Lib.hid hbt
        generalize hnn : acc.length = nn at *
        have HNN := Lib.hid hnn
        by_cases hcm : cb = m
        · have hnm : nn = m := by omega
          have HZ : Hid ((Wl.bytes s).take (E - s.start) = []) := by
            show _ = _
            rw [← HFD.out]
            exact List.drop_eq_nil_of_le (by rw [HNN.out]; omega)
          clear hv hfd hm hrm hlo hbt hbd hnn
          go_wp2_with (go_at_call 35; refine HCL.out.mono ?_; rintro e w' ⟨rfl, rfl⟩)
          go_ret2
          exact ⟨_, _, _, HEND.out, rfl, by rw [HZ.out]; exact bts_zero _ _ _ _ (by omega) (by omega), (fun g h => by have h2 : some gb = some g := h; rw [← Option.some.inj h2]; exact HGB.out), HB.out⟩
        · clear hv hfd hm hrm hlo hbt hbd hnn
          go_wp2_with (go_at_call 35; refine HCL.out.mono ?_; rintro e w' ⟨rfl, rfl⟩)
          go_ret2
          exact ⟨_, _, _, HEND.out, rfl, HBD.out, (fun g h => by have h2 : some gb = some g := h; rw [← Option.some.inj h2]; exact HGB.out), HB.out⟩
end Go.Proofs.YtafpjcobagofcaaGreat
