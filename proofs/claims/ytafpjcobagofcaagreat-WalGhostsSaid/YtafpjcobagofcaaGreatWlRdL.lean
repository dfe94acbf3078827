/- Read, by the program. Conditions: the log stands on its device. -/
import Derived.Test.YtafpjcobagofcaaGreatWlNewM
import Derived.Test.YtafpjcobagofcaaGreatWlFind
import Derived.Test.YtafpjcobagofcaaGreatWlApp
namespace Go.Proofs.YtafpjcobagofcaaGreat
open Go.RowKit

theorem Wl.places_at {s : Wl.S} (h : Wl.Good s) {i : Nat} (hi : i < s.recs.length) : (Wl.places s).getD i 0 = Wl.placeOf s i := by
  rw [← (Wl.plc_next h hi).2]
  unfold Wl.places
  rw [List.getD_eq_getElem?_getD, List.getElem?_map, List.getElem?_eq_getElem hi]
  rfl
theorem Wl.places_rise {s : Wl.S} (h : Wl.Good s) : Rises (Wl.places s) := fun i j hij hj => by
  rw [Wl.places_length] at hj
  rw [Wl.places_at h (by omega), Wl.places_at h hj]
  exact Wl.plc_mono h hij (Nat.le_of_lt hj)
theorem Wl.read_no {s : Wl.S} (h : Wl.Good s) {p i : Nat} (hs : Spot (Wl.places s) p i) (hn : ¬ (i < (Wl.places s).length ∧ (Wl.places s).getD i 0 = p)) : Wl.readR s p = (Lr.zero, 0, 7) := by
  have hf : Wl.find s p = none := by
    refine List.find?_eq_none.2 fun x hx hp => ?_
    obtain ⟨j, hj, rfl⟩ := List.getElem_of_mem hx
    have hj2 : j < (Wl.places s).length := by rw [Wl.places_length]; exact hj
    have e : (Wl.places s).getD j 0 = p := by
      rw [Wl.places_at h hj, ← (Wl.plc_next h hj).2]
      exact beq_iff_eq.1 hp
    rcases Nat.lt_or_ge j i with h1 | h1
    · have := hs.2.1 j h1
      omega
    · have h2 := hs.2.2 i (Nat.le_refl _) (by omega)
      have h3 := Wl.places_rise h i j h1 hj2
      exact hn ⟨by omega, by omega⟩
  unfold Wl.readR
  rw [hf]
theorem Wl.read_yes {s : Wl.S} (h : Wl.Good s) {i : Nat} (hi : i < s.recs.length) : Wl.readR s (Wl.placeOf s i) = (s.recs[i], Wl.placeOf s (i + 1), 0) := by
  have h1 := Wl.plc_next h hi
  rw [h1.1, ← h1.2]
  exact Wl.read_at h.chain hi
theorem Wl.side {s : Wl.S} (hx : Wl.Ex s) {i : Nat} (hi : i < s.recs.length) : s.flushed ≤ Wl.placeOf s i ∨ Wl.placeOf s (i + 1) ≤ s.flushed := by
  obtain ⟨k, hk, he⟩ := hx.edge
  rcases Nat.lt_or_ge i k with h1 | h1
  · exact Or.inr (by rw [← he]; exact Wl.plc_mono hx.good h1 hk)
  · exact Or.inl (by rw [← he]; exact Wl.plc_mono hx.good h1 (Nat.le_of_lt hi))
set_option maxHeartbeats 6400000 in
set_option maxRecDepth 20000 in
theorem wl_read {U V : Nat → Prop} {w : World} {B L n : Nat} {d : Dk.Dev} {s : Wl.S} (p : Nat) (h : WlPL U V w B L d s) (hC : Wl.Calm n d) (hs : s.stop ≤ 1000000000000) :
    Calls Tryz.prog 12 #[.pointer (some ⟨L, 0, none⟩), .int .u64 (p : Int)] w fun e w' =>
      ∃ o n u c t, e = .returned (.tuple #[RecV (Wl.readR s p).1 o n u c t, .int .u64 ((Wl.readR s p).2.1 : Nat), .int .i64 ((Wl.readR s p).2.2 : Nat)]) ∧ RecOwn w.heap.size w' (Wl.readR s p).1 o n u c t ∧ Below w.heap.size w w' := by
  obtain ⟨m1, m2, pl, wa, hm, rfl, hp, rfl, haw, said, hsd, hd⟩ := h
  obtain ⟨W, hW⟩ : ∃ W, W = w.alloc zobj := ⟨_, rfl⟩
  have hb := below_new1 w zobj
  have hrow := zblk w
  rw [← hW] at hb hrow
  obtain ⟨Q, hQ⟩ : ∃ Q, Q = w.heap.size := ⟨_, rfl⟩
  rw [← hQ] at hrow
  have HQ := Lib.hid hQ
  have HB := Lib.hid hb
  have hmW := hm.below hb
  have HLM := Lib.hid hmW
  have HROW := Lib.hid hrow
  have HS := Lib.hid hs
  have HD := Lib.hid hd
  have HOF : Hid (d.off = false) := hC.off
  have HP := Lib.hid (hp.below hb)
  have HX : Hid (Wl.Ex s) := hm.ex
  have he := hmW.end_
  obtain ⟨pp, pc, rfl⟩ := hmW.qpl.qu.slice
  obtain ⟨pw, wc, rfl⟩ := wa_slice hmW.owa
  have c7 := hmW.log.cell 7 (v := .slice pp (Wl.places s).length pc) rfl
  have HSE := Lib.hid (search_any (w := W) hmW.qpl.qu p (Wl.places_rise hm.ex.good) (Nat.le_trans (Wl.places_few hm.ex) (by decide)))
  have hend := wlEnd_any hmW.log (by show s.flushed + _ < _; rw [he]; omega)
  rw [show (Wl.kn s).flushed + (Wl.waits s).length = s.stop from he] at hend
  have HEND := Lib.hid hend
  have hrd := wlReady_any hmW.log
  clear hb hrow hm hs hd hp haw he hC hsd hmW hend
  have HNL : Hid ((Wl.places s).length = s.recs.length) := Wl.places_length s
  have HNF : Hid ((Wl.places s).length ≤ 50000) := Wl.places_few HX.out
  unfold zobj at hW
  go_enter Tryz.func12, Tryz.ntmps12
  go_upto_region 1 with (fail)
  rw [← hW, ← hQ]
  clear hW hQ
  go_wp2_with (go_at_call 26; refine hrd.mono ?_; rintro e w' ⟨rfl, rfl⟩)
  refine HSE.out.mono ?_
  rintro e w' ⟨⟨i, bo, hsp, hbo, rfl⟩, rfl⟩
  clear HSE hrd
  cases bo with
  | false =>
    have hn : ¬ (i < (Wl.places s).length ∧ (Wl.places s).getD i 0 = p) := fun h => by have := hbo.2 h; cases this
    have HRR := Lib.hid (Wl.read_no HX.out.good hsp hn)
    clear hsp hbo hn HEND
    go_upto_region 6 with (fail)
    iterate 4 go_step
    refine wpList_store_rec rfl (.tmp 4) (.tmp 32) rfl Q rfl #[.int .i64 0, .int .u64 0, .int .u32 0, .int .u64 0, .int .u32 0, .int .u16 0, .slice none 0 0, .slice none 0 0, .slice none 0 0, .int .u64 0, .int .u64 0, .bool false, .int .u64 0, .slice none 0 0, .slice none 0 0] rfl _ HROW.out rfl rfl (by simp [Value.oneCell']) ?_
    intro Y hrY hgY
    have HST : Hid (_ ∧ _) := ⟨hrY, hgY⟩
    clear hrY hgY
    go_wp2_with fail
    refine bodyPost_ret (v := .tuple #[.agg #[.int .i64 0, .int .u64 0, .int .u32 0, .int .u64 0, .int .u32 0, .int .u16 0, .slice none 0 0, .slice none 0 0, .slice none 0 0, .int .u64 0, .int .u64 0, .bool false, .int .u64 0, .slice none 0 0, .slice none 0 0], .int .u64 0, .int .i64 7]) (results_row_slots rfl _ _ Q _ _ _ _ _ _ rfl rfl rfl HST.out.1 Tryz.underlying40 rfl (rec_info rfl)) rfl ?_
    rw [HRR.out]
    exact ⟨_, _, _, _, _, rfl, zero_own _ _, below_grown HB.out HST.out.2 HB.out.size (Nat.le_of_eq HQ.out.symm)⟩
  | true =>
    obtain ⟨hi, hgi⟩ := hbo.1 rfl
    have hir : i < s.recs.length := by rw [← HNL.out]; exact hi
    rw [Wl.places_at HX.out.good hir] at hgi
    have hrr := Wl.read_yes HX.out.good hir
    have hnext := Wl.plc_next HX.out.good hir
    have hsz := Wl.size_pos s.recs[i]
    have hok := HX.out.good.ok _ (List.getElem_mem hir)
    have hrb := Wl.rec_bytes HX.out.good hir
    have hsd := Wl.side HX.out hir
    have hple := Wl.plc_le HX.out.good (Nat.le_of_lt hir)
    have hple2 := Wl.plc_le HX.out.good (k := i + 1) hir
    rw [hgi] at hrr hnext hrb hsd hple
    obtain ⟨b, hb⟩ : ∃ b, b = Wl.placeOf s (i + 1) := ⟨_, rfl⟩
    rw [← hb] at hrr hnext hrb hsd hple2
    have hbd : b = if i + 1 < (Wl.places s).length then (Wl.places s).getD (i + 1) 0 else s.stop := by
      rw [hb]
      split
      · rename_i h1
        exact (Wl.places_at HX.out.good (by rw [← HNL.out]; exact h1)).symm
      · rename_i h1
        rw [show i + 1 = s.recs.length by rw [← HNL.out]; omega]
        exact Wl.plc_all s
    have hib : i ≤ 50000 := by have := HNF.out; omega
    generalize s.recs[i] = x at *
    have hfm : Lr.readR (Lr.form x) = (x, (Lr.form x).length, 0) := by
      have := Lr.is_form hok.1 hok.2 []
      rw [List.append_nil] at this
      exact Lr.readR_of this
    have hfl := Lr.form_most hok.1.1
    have HRR := Lib.hid hrr
    have HNX := Lib.hid hnext
    have HSZ := Lib.hid hsz
    have HRB := Lib.hid hrb
    have HSD := Lib.hid hsd
    have HPLE := Lib.hid hple
    have HPL2 := Lib.hid hple2
    have HBD := Lib.hid hbd
    have HFM := Lib.hid hfm
    have HFL := Lib.hid hfl
    have HI := Lib.hid hi
    obtain ⟨j, hj⟩ : ∃ j, j = i + 1 := ⟨_, rfl⟩
    have hi2 : wrap64 ((i : Int) + 1) = (j : Int) := by rw [IntWalk.wrap64_in _ (by omega), hj]; omega
    clear hrr hnext hsz hrb hsd hple hple2 hbd hfm hfl hi hir hgi hsp hbo hok hb hib
    have HJ := Lib.hid hj
    go_wp2_with fail
    refine HEND.out.mono ?_
    rintro e w1 ⟨rfl, q, rfl⟩
    have HB1 : Hid (Below w.heap.size w (W.drewN q)) := HB.out.trans ((below_drewN _ W q).mono HB.out.size)
    have HLM1 : Hid (LogM (W.drewN q) L B s (.slice pp (Wl.places s).length pc) (.slice pw (Wl.waits s).length wc)) := HLM.out.below (below_drewN _ W q)
    have HP1 : Hid (PDev (W.drewN q) B m1 m2 d) := HP.out.below (below_drewN _ W q)
    have HROW1 : Hid ((W.drewN q).heap[Q]? = _) := HROW.out
    clear HEND c7
    generalize W.drewN q = w1 at *
    have c7 := HLM1.out.log.cell 7 (v := .slice pp (Wl.places s).length pc) rfl
    have hbt : Calls Tryz.prog 29 #[.pointer (some ⟨L, 0, none⟩), .int .u64 (p : Int), .int .u64 (b : Int)] w1 fun e w' => ∃ u, e = .returned (.tuple #[u, .int .i64 0]) ∧ Bts w' u (Lr.form x) ∧ Below w1.heap.size w1 w' :=
      wlBetween_any HLM1.out.log HP1.out HOF.out HX.out HD.out HLM1.out.owa HS.out HPLE.out.1 (by have h1 := HNX.out.1; have h2 := HSZ.out; omega) HPL2.out.2 HRB.out HSD.out
    have HBT := Lib.hid hbt
    clear hbt
    by_cases hjl : j < (Wl.places s).length
    · have hji : (j : Int) < ((Wl.places s).length : Int) := by omega
      obtain ⟨g, off, cap', hv, -, hc1, hc2, hcell⟩ := HLM1.out.qpl.qu.some (by omega)
      simp only [Value.slice.injEq, true_and] at hv
      obtain ⟨rfl, rfl⟩ := hv
      have hcm := hcell j hjl
      have hbe := HBD.out
      rw [← HJ.out, if_pos hjl] at hbe
      rw [← hbe] at hcm
      clear hcell hbe hj hc1 hc2
      generalize (Wl.places s).length = pn at *
      go_wp2_with fail
      refine HBT.out.mono ?_
      rintro e w2 ⟨u, rfl, hu, hb2⟩
      have HB2 := Lib.hid (HB1.out.trans (hb2.mono HB1.out.size))
      have HROW2 := Lib.hid ((hb2.block _ (lt_of_block HROW1.out)).trans HROW1.out)
      have hrd := recRead_any u (Lr.form x) w2 hu (Nat.le_trans HFL.out (by decide))
      rw [HFM.out] at hrd
      dsimp only at hrd
      obtain ⟨pu, cu, rfl⟩ := hu.slice
      have HRD := Lib.hid hrd
      clear hu hb2 hrd HBT HROW1
      generalize (Lr.form x).length = fl at *
      go_wp2_with fail
      refine HRD.out.mono ?_
      rintro e w3 ⟨o, n', uu, c, t, rfl, hO, hb3⟩
      obtain ⟨p1, c1, p2, c2, p3, c3, p4, c4, p5, c5, rfl, rfl, rfl, rfl, rfl⟩ := rec_slices hO.at
      have HB3 := Lib.hid (HB2.out.trans (hb3.mono HB2.out.size))
      have HROW3 := Lib.hid ((hb3.block _ (lt_of_block HROW2.out)).trans HROW2.out)
      have HO3 := Lib.hid hO
      have HSW : Hid (Q < w2.heap.size ∧ w2.heap.size ≤ w3.heap.size) := ⟨lt_of_block HROW2.out, hb3.size⟩
      clear hO hb3 HRD HROW2
      dsimp only
      iterate 16 go_step
      refine wpList_store_rec rfl (.tmp 13) (.tmp 65) rfl w3.heap.size rfl #[.int .i64 x.kind, .int .u64 (x.lsn : Int), .int .u32 (x.epoch : Int), .int .u64 (x.txn : Int), .int .u32 (x.page : Int), .int .u16 (x.off : Int), .slice p1 x.old.length c1, .slice p2 x.new.length c2, .slice p3 x.undo.length c3, .int .u64 (x.prev : Int), .int .u64 (x.next : Int), .bool x.clr, .int .u64 (x.stamp : Int), .slice p4 x.opn.length c4, .slice p5 x.dirt.length c5] rfl _ (heap_alloc_last _ _) rfl rfl (by simp [Value.oneCell']) ?_
      intro Y hrY hgY
      have hbY : Below w3.heap.size w3 Y := below_grown (below_new1 w3 _) hgY (below_new1 w3 _).size (Nat.le_refl _)
      obtain ⟨Q2, hQ2⟩ : ∃ Q, Q = w3.heap.size := ⟨_, rfl⟩
      rw [← hQ2] at hrY ⊢
      have HBY := Lib.hid (HB3.out.trans (hbY.mono HB3.out.size))
      have HRY := Lib.hid hrY
      have HROWY := Lib.hid ((hbY.block _ (lt_of_block HROW3.out)).trans HROW3.out)
      have HOY := Lib.hid (HO3.out.below hbY)
      clear hrY hgY hbY HROW3 HO3 hQ2
      go_upto_region 16 with (fail)
      go_step
      refine wpList_load_rec rfl (.tmp 13) rfl Q2 rfl _ HRY.out rfl ?_
      iterate 3 go_step
      refine wpList_store_rec rfl (.tmp 4) (.tmp 71) rfl Q rfl #[.int .i64 x.kind, .int .u64 (x.lsn : Int), .int .u32 (x.epoch : Int), .int .u64 (x.txn : Int), .int .u32 (x.page : Int), .int .u16 (x.off : Int), .slice p1 x.old.length c1, .slice p2 x.new.length c2, .slice p3 x.undo.length c3, .int .u64 (x.prev : Int), .int .u64 (x.next : Int), .bool x.clr, .int .u64 (x.stamp : Int), .slice p4 x.opn.length c4, .slice p5 x.dirt.length c5] rfl _ HROWY.out rfl rfl (by simp [Value.oneCell']) ?_
      intro Z hrZ hgZ
      have HST : Hid (_ ∧ _) := ⟨hrZ, hgZ⟩
      clear hrZ hgZ
      go_wp2_with fail
      refine bodyPost_ret (v := .tuple #[.agg #[.int .i64 x.kind, .int .u64 (x.lsn : Int), .int .u32 (x.epoch : Int), .int .u64 (x.txn : Int), .int .u32 (x.page : Int), .int .u16 (x.off : Int), .slice p1 x.old.length c1, .slice p2 x.new.length c2, .slice p3 x.undo.length c3, .int .u64 (x.prev : Int), .int .u64 (x.next : Int), .bool x.clr, .int .u64 (x.stamp : Int), .slice p4 x.opn.length c4, .slice p5 x.dirt.length c5], .int .u64 (b : Int), .int .i64 0]) (results_row_slots rfl _ _ Q _ _ _ _ _ _ rfl rfl rfl HST.out.1 Tryz.underlying40 rfl (rec_info rfl)) rfl ?_
      rw [HRR.out]
      have hlt := HSW.out.1
      have h := HOY.out
      exact ⟨_, _, _, _, _, rfl, ⟨(h.old.grown HST.out.2 (own_neB h.old hlt)).from HB2.out.size, (h.new.grown HST.out.2 (own_neB h.new hlt)).from HB2.out.size, (h.undo.grown HST.out.2 (own_neB h.undo hlt)).from HB2.out.size, (h.opn.grown HST.out.2 (Chr.own_neB h.opn hlt)).from HB2.out.size, (h.dirt.grown HST.out.2 (Dir.own_neB h.dirt hlt)).from HB2.out.size, h.ok⟩, below_grown HBY.out HST.out.2 HBY.out.size (Nat.le_of_eq HQ.out.symm)⟩
    · have hji : ¬ (j : Int) < ((Wl.places s).length : Int) := by omega
      have hbe := HBD.out
      rw [← HJ.out, if_neg hjl] at hbe
      rw [← hbe]
      clear hbe hj
      generalize (Wl.places s).length = pn at *
      go_wp2_with fail
      refine HBT.out.mono ?_
      rintro e w2 ⟨u, rfl, hu, hb2⟩
      have HB2 := Lib.hid (HB1.out.trans (hb2.mono HB1.out.size))
      have HROW2 := Lib.hid ((hb2.block _ (lt_of_block HROW1.out)).trans HROW1.out)
      have hrd := recRead_any u (Lr.form x) w2 hu (Nat.le_trans HFL.out (by decide))
      rw [HFM.out] at hrd
      dsimp only at hrd
      obtain ⟨pu, cu, rfl⟩ := hu.slice
      have HRD := Lib.hid hrd
      clear hu hb2 hrd HBT HROW1
      generalize (Lr.form x).length = fl at *
      go_wp2_with fail
      refine HRD.out.mono ?_
      rintro e w3 ⟨o, n', uu, c, t, rfl, hO, hb3⟩
      obtain ⟨p1, c1, p2, c2, p3, c3, p4, c4, p5, c5, rfl, rfl, rfl, rfl, rfl⟩ := rec_slices hO.at
      have HB3 := Lib.hid (HB2.out.trans (hb3.mono HB2.out.size))
      have HROW3 := Lib.hid ((hb3.block _ (lt_of_block HROW2.out)).trans HROW2.out)
      have HO3 := Lib.hid hO
      have HSW : Hid (Q < w2.heap.size ∧ w2.heap.size ≤ w3.heap.size) := ⟨lt_of_block HROW2.out, hb3.size⟩
      clear hO hb3 HRD HROW2
      dsimp only
      iterate 16 go_step
      refine wpList_store_rec rfl (.tmp 13) (.tmp 65) rfl w3.heap.size rfl #[.int .i64 x.kind, .int .u64 (x.lsn : Int), .int .u32 (x.epoch : Int), .int .u64 (x.txn : Int), .int .u32 (x.page : Int), .int .u16 (x.off : Int), .slice p1 x.old.length c1, .slice p2 x.new.length c2, .slice p3 x.undo.length c3, .int .u64 (x.prev : Int), .int .u64 (x.next : Int), .bool x.clr, .int .u64 (x.stamp : Int), .slice p4 x.opn.length c4, .slice p5 x.dirt.length c5] rfl _ (heap_alloc_last _ _) rfl rfl (by simp [Value.oneCell']) ?_
      intro Y hrY hgY
      have hbY : Below w3.heap.size w3 Y := below_grown (below_new1 w3 _) hgY (below_new1 w3 _).size (Nat.le_refl _)
      obtain ⟨Q2, hQ2⟩ : ∃ Q, Q = w3.heap.size := ⟨_, rfl⟩
      rw [← hQ2] at hrY ⊢
      have HBY := Lib.hid (HB3.out.trans (hbY.mono HB3.out.size))
      have HRY := Lib.hid hrY
      have HROWY := Lib.hid ((hbY.block _ (lt_of_block HROW3.out)).trans HROW3.out)
      have HOY := Lib.hid (HO3.out.below hbY)
      clear hrY hgY hbY HROW3 HO3 hQ2
      go_upto_region 16 with (fail)
      go_step
      refine wpList_load_rec rfl (.tmp 13) rfl Q2 rfl _ HRY.out rfl ?_
      iterate 3 go_step
      refine wpList_store_rec rfl (.tmp 4) (.tmp 71) rfl Q rfl #[.int .i64 x.kind, .int .u64 (x.lsn : Int), .int .u32 (x.epoch : Int), .int .u64 (x.txn : Int), .int .u32 (x.page : Int), .int .u16 (x.off : Int), .slice p1 x.old.length c1, .slice p2 x.new.length c2, .slice p3 x.undo.length c3, .int .u64 (x.prev : Int), .int .u64 (x.next : Int), .bool x.clr, .int .u64 (x.stamp : Int), .slice p4 x.opn.length c4, .slice p5 x.dirt.length c5] rfl _ HROWY.out rfl rfl (by simp [Value.oneCell']) ?_
      intro Z hrZ hgZ
      have HST : Hid (_ ∧ _) := ⟨hrZ, hgZ⟩
      clear hrZ hgZ
      go_wp2_with fail
      refine bodyPost_ret (v := .tuple #[.agg #[.int .i64 x.kind, .int .u64 (x.lsn : Int), .int .u32 (x.epoch : Int), .int .u64 (x.txn : Int), .int .u32 (x.page : Int), .int .u16 (x.off : Int), .slice p1 x.old.length c1, .slice p2 x.new.length c2, .slice p3 x.undo.length c3, .int .u64 (x.prev : Int), .int .u64 (x.next : Int), .bool x.clr, .int .u64 (x.stamp : Int), .slice p4 x.opn.length c4, .slice p5 x.dirt.length c5], .int .u64 (b : Int), .int .i64 0]) (results_row_slots rfl _ _ Q _ _ _ _ _ _ rfl rfl rfl HST.out.1 Tryz.underlying40 rfl (rec_info rfl)) rfl ?_
      rw [HRR.out]
      have hlt := HSW.out.1
      have h := HOY.out
      exact ⟨_, _, _, _, _, rfl, ⟨(h.old.grown HST.out.2 (own_neB h.old hlt)).from HB2.out.size, (h.new.grown HST.out.2 (own_neB h.new hlt)).from HB2.out.size, (h.undo.grown HST.out.2 (own_neB h.undo hlt)).from HB2.out.size, (h.opn.grown HST.out.2 (Chr.own_neB h.opn hlt)).from HB2.out.size, (h.dirt.grown HST.out.2 (Dir.own_neB h.dirt hlt)).from HB2.out.size, h.ok⟩, below_grown HBY.out HST.out.2 HBY.out.size (Nat.le_of_eq HQ.out.symm)⟩
end Go.Proofs.YtafpjcobagofcaaGreat
