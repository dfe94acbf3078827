/- Parts of a proof. Conditions: as each row says. -/
import Derived.Test.YtbpodmallknhfaaGreatAr25
namespace Go.Proofs.YtbpodmallknhfaaGreat
open Go.RowKit
theorem count_set : ∀ (H : List (Option Nat)) (k : Nat) (x : Option Nat), k < H.length → (H.set k x).countP Option.isSome + (if (H.getD k none).isSome then 1 else 0) = H.countP Option.isSome + (if x.isSome then 1 else 0)
  | [], k, x, h => by simp at h
  | y :: H, 0, x, _ => by
    show (x :: H).countP _ + (if y.isSome then 1 else 0) = (y :: H).countP _ + _
    rw [List.countP_cons, List.countP_cons]
    omega
  | y :: H, k + 1, x, h => by
    have ih := count_set H k x (by simpa using h)
    show (y :: H.set k x).countP _ + (if (H.getD k none).isSome then 1 else 0) = (y :: H).countP _ + _
    rw [List.countP_cons, List.countP_cons]
    omega
theorem getD_set (H : List (Option Nat)) {k : Nat} (hk : k < H.length) (x : Option Nat) (j : Nat) : (H.set k x).getD j none = if j = k then x else H.getD j none := by
  by_cases h : j = k
  · subst h
    rw [if_pos rfl, List.getD_eq_getElem?_getD, List.getElem?_set_self hk]; rfl
  · rw [if_neg h, List.getD_eq_getElem?_getD, List.getElem?_set_ne (Ne.symm h), ← List.getD_eq_getElem?_getD]
section
variable {w w' : World} {P B S b N L cnt hand mp : Nat} {F : List Fr}
theorem PmRow.again {g : Fr} (hF : F.length = 64) {i : Nat} (hi : i < 64) (h : PmRow w P B S b N L cnt hand mp (F.set i g)) (j : Nat) (hj : j < 7) (v : Value) (f : Fr) (e : frC f = (frC g).set j v) : PmRow (w.setCell ⟨P, 5 + i * 7 + j, none⟩ v) P B S b N L cnt hand mp (F.set i f) := by
  have h1 := h.set hi j hj v f (by rw [fa_set F (by omega), if_pos rfl]; exact e)
  rw [List.set_set] at h1
  exact h1
theorem PmRow.set7 (h : PmRow w P B S b N L cnt hand mp F) {i : Nat} (hi : i < 64) (f : Fr) :
    PmRow (((((((w.setCell ⟨P, 5 + i * 7, none⟩ (.int .i64 (f.page : Int))).setCell ⟨P, 5 + i * 7 + 1, none⟩ (.int .u64 (f.lsn : Int))).setCell ⟨P, 5 + i * 7 + 2, none⟩ f.u).setCell ⟨P, 5 + i * 7 + 3, none⟩ (.int .i64 (f.pins : Int))).setCell ⟨P, 5 + i * 7 + 4, none⟩ (.bool f.dirty)).setCell ⟨P, 5 + i * 7 + 5, none⟩ (.int .u64 (f.first : Int))).setCell ⟨P, 5 + i * 7 + 6, none⟩ (.bool f.used)) P B S b N L cnt hand mp (F.set i f) := by
  have h0 := h.set hi 0 (by decide) (.int .i64 (f.page : Int)) { fa F i with page := f.page } rfl
  rw [Nat.add_zero] at h0
  have h1 := PmRow.again h.len hi h0 1 (by decide) (.int .u64 (f.lsn : Int)) { fa F i with page := f.page, lsn := f.lsn } rfl
  have h2 := PmRow.again h.len hi h1 2 (by decide) f.u { fa F i with page := f.page, lsn := f.lsn, u := f.u } rfl
  have h3 := PmRow.again h.len hi h2 3 (by decide) (.int .i64 (f.pins : Int)) { fa F i with page := f.page, lsn := f.lsn, u := f.u, pins := f.pins } rfl
  have h4 := PmRow.again h.len hi h3 4 (by decide) (.bool f.dirty) { fa F i with page := f.page, lsn := f.lsn, u := f.u, pins := f.pins, dirty := f.dirty } rfl
  have h5 := PmRow.again h.len hi h4 5 (by decide) (.int .u64 (f.first : Int)) { fa F i with page := f.page, lsn := f.lsn, u := f.u, pins := f.pins, dirty := f.dirty, first := f.first } rfl
  exact PmRow.again h.len hi h5 6 (by decide) (.bool f.used) f rfl
end
def BrA (Fb : Nat → Prop) (U V : Nat → Prop) (B L P S b N mp : Nat) (F : List Fr) (H : List (Option Nat)) (n : Nat) (d : Dk.Dev) (lg : Wl.S) (s : Po.S) (m : Nat) (y : Po.Pg) (w : World) (e : Ending) (w' : World) : Prop :=
  (∃ i hand1 F1 H1 U1 V1 d1 lg1 s1 dk, e = .returned (.tuple #[.pointer (some ⟨P, 5 + i * 7, none⟩), .int .i64 0]) ∧ i < s1.held.length ∧ (fa F1 i).page = m ∧ m ∈ s1.held ∧ Po.Moved s s1 ∧ Po.Free s m ∧ Po.Good s1 ∧ WlPL U1 V1 w' B L d1 lg1 ∧
    PmIs w' B L P S b N hand1 mp F1 H1 { s1 with now := Po.upd s.now m (Lr.ifP (m ∈ s.held) (s.now m) y), disk := dk } ∧ (y = s.now m → dk = s1.disk) ∧ Rg.HwN S b N d1 s1.disk ∧ Wl.Near n d1 ∧ (Wl.Calm n d → Wl.Calm n d1) ∧ Po.Lf lg lg1 ∧ Po.Rule lg1 s1 ∧ (∀ j, Both U1 V1 j → ¬ PmX P mp F1 j) ∧
    Touch (fun j => Both U V j ∨ j = P ∨ j = mp) w w' ∧ Grew U U1 w ∧ Grew V V1 w ∧ (∀ j, PmX P mp F1 j → PmX P mp F j ∨ w.heap.size ≤ j ∨ Fb j) ∧ ((∀ k, s.first k = none) → d1 = d ∧ lg1 = lg)) ∨
  (¬ Po.Free s m ∧ e = .returned (.tuple #[.pointer none, .int .i64 13]) ∧ ∃ hand1 F1, PmIn U V w' B L P S b N hand1 mp F1 H n d lg s ∧ PmX P mp F1 = PmX P mp F ∧ Touch (fun j => Both U V j ∨ j = P ∨ j = mp) w w') ∨
  (¬ Wl.Calm n d ∧ e = .returned (.tuple #[.pointer none, .int .i64 6]) ∧ ∃ U' d' lg' c, WlPD U' w' B d' ∧ Wl.Near n d' ∧ Touch (fun j => Both U V j ∨ j = P ∨ j = mp) w w' ∧ Grew U U' w ∧ Po.Lf lg lg' ∧ (∀ k x, c k x → (x = s.disk k ∨ x = s.now k) ∧ x.1 < lg'.flushed) ∧ ∀ ps, Wl.Hd (Dk.crash d' ps) lg' ∧ Rg.HpN S b N (Dk.crash d' ps) c)
theorem Po.used_upd (s : Po.S) (m : Nat) : Po.upd s.now m (s.now m) = s.now := Po.upd_same _ _ _ rfl
section
variable {w w' : World} {B L P S b N hand mp : Nat} {F : List Fr} {H : List (Option Nat)} {s : Po.S}
structure H7 (s : Po.S) (H H' : List (Option Nat)) (N m i : Nat) : Prop where
  len : H'.length = N
  at_ : H'.getD m none = some i
  oth : ∀ k, k ≠ m → H'.getD k none = if H.getD k none = some i then none else H.getD k none
  cnt : (heldL H').length = if i < s.held.length then s.held.length else s.held.length + 1
theorem h7_free (h : PmIs w B L P S b N hand mp F H s) {m i : Nat} (hi : i = s.held.length) (hm : m < N) (hnh : H.getD m none = none) : H7 s H (H.set m (some i)) N m i := by
  have hmH : m < H.length := by rw [h.hlen]; exact hm
  refine ⟨by rw [List.length_set]; exact h.hlen, by rw [getD_set H hmH, if_pos rfl], fun k hk => ?_, ?_⟩
  · rw [getD_set H hmH, if_neg hk, if_neg]
    intro e
    have := (h.into k i e).1
    omega
  · have h1 := count_set H m (some i) hmH
    rw [hnh] at h1
    have h2 := h.bounds.2
    rw [heldL_length, if_neg (by omega)]
    simp at h1
    omega
theorem h7_evict (h : PmIs w B L P S b N hand mp F H s) {m i : Nat} (hi : i < s.held.length) (hm : m < N) (hnh : H.getD m none = none) : H7 s H ((H.set (fa F i).page none).set m (some i)) N m i := by
  have hmH : m < H.length := by rw [h.hlen]; exact hm
  have hp := page_lt h hi
  have hpH : (fa F i).page < H.length := by rw [h.hlen]; exact hp
  have ho := h.onto i hi
  have hne : m ≠ (fa F i).page := fun e => by rw [e, ho] at hnh; cases hnh
  have hl2 : (H.set (fa F i).page none).length = H.length := List.length_set
  refine ⟨by rw [List.length_set, List.length_set]; exact h.hlen, by rw [getD_set _ (by rw [hl2]; exact hmH), if_pos rfl], fun k hk => ?_, ?_⟩
  · rw [getD_set _ (by rw [hl2]; exact hmH), if_neg hk, getD_set H hpH]
    by_cases e : k = (fa F i).page
    · rw [if_pos e, e, ho, if_pos rfl]
    · rw [if_neg e, if_neg]
      intro e2
      exact e (h.into k i e2).2.symm
  · have h1 := count_set H (fa F i).page none hpH
    rw [ho] at h1
    have h2 := count_set (H.set (fa F i).page none) m (some i) (by rw [hl2]; exact hmH)
    rw [getD_set H hpH, if_neg hne, hnh] at h2
    have h3 := h.bounds.2
    rw [heldL_length, if_pos hi]
    simp at h1 h2
    omega
theorem br_final {U V : Nat → Prop} {n : Nat} {d : Dk.Dev} {lg : Wl.S} {H' : List (Option Nat)} (h : PmIn U V w B L P S b N hand mp F H n d lg s) (ht : Touch (fun j => j = P ∨ j = mp) w w') {i m : Nat} {y : Po.Pg} {u : Value} (hi : i ≤ s.held.length) (hif : i < s.frames) (hm : m < N) (hnh : H.getD m none = none) (hy : Po.PgOk y) (hB : Bts w u y.2)
    (hu : ∀ g, u.ownBlock = some g → ¬ Both U V g ∧ g ≠ P ∧ g ≠ mp) (hc : i < s.held.length → (fa F i).pins = 0 ∧ (fa F i).dirty = false) (hrow : PmRow w' P B S b N L s.frames hand mp (F.set i ⟨m, y.1, u, 0, false, 0, true⟩)) (hmap : HmAt w' mp H') (h7 : H7 s H H' N m i) :
    Po.Good { s with held := heldL H' } ∧ m ∈ heldL H' ∧ i < (heldL H').length ∧ WlPL U V w' B L d lg ∧ PmIs w' B L P S b N hand mp (F.set i ⟨m, y.1, u, 0, false, 0, true⟩) H' (Po.loaded s H' m y) ∧ (∀ j, Both U V j → ¬ PmX P mp (F.set i ⟨m, y.1, u, 0, false, 0, true⟩) j) ∧
    (∀ j, PmX P mp (F.set i ⟨m, y.1, u, 0, false, 0, true⟩) j → PmX P mp F j ∨ u.ownBlock = some j) ∧ s.disk m = s.now m := by
  obtain ⟨n1, n2, n3⟩ := not_held h.pm hnh
  have hcl := h.pm.good.clean m n3
  have hiF : i < F.length := by rw [h.pm.row.len]; have := h.pm.cnt; omega
  have hX : ∀ j, PmX P mp (F.set i ⟨m, y.1, u, 0, false, 0, true⟩) j → PmX P mp F j ∨ u.ownBlock = some j := by
    rintro j (e | e | ⟨k, hk⟩)
    · exact Or.inl (Or.inl e)
    · exact Or.inl (Or.inr (Or.inl e))
    · rw [fa_set F hiF] at hk
      split at hk
      · exact Or.inr hk
      · exact Or.inl (Or.inr (Or.inr ⟨k, hk⟩))
  have hg1 := good_load h.pm hi hif hm hnh (h.pm.good.ok m) hc h7.len h7.at_ h7.oth h7.cnt
  have e1 : Po.loaded s H' m (s.now m) = { s with held := heldL H' } := by
    unfold Po.loaded
    rw [Po.upd_same s.now m _ rfl, Po.upd_same s.disk m _ hcl]
  rw [e1] at hg1
  refine ⟨hg1.1, hg1.2, by rw [h7.cnt]; split <;> omega, wl_pkeep h.log ht fun j hj e => ?_, h.pm.load ht (fun j _ h1 h2 e => ?_) hi hif hm hnh hy (ht.bts hB fun _ g hg e => ?_) (fun g hg => (hu g hg).2) hc hrow hmap h7.len h7.at_ h7.oth h7.cnt, fun j hj hx => ?_, hX, hcl⟩
  · rcases e with e | e
    · exact h.off j hj (Or.inl e)
    · exact h.off j hj (Or.inr (Or.inl e))
  · rcases e with e | e
    · exact h1 e
    · exact h2 e
  · rcases e with e | e
    · exact (hu g hg).2.1 e
    · exact (hu g hg).2.2 e
  · rcases hX j hx with h1 | h1
    · exact h.off j hj h1
    · exact (hu j h1).1 hj
end
set_option maxHeartbeats 12800000 in
set_option maxRecDepth 20000 in
theorem pmBrought_read {Fb U V : Nat → Prop} {w : World} {B L P S b N hand mp n : Nat} {F : List Fr} {H : List (Option Nat)} {d : Dk.Dev} {lg : Wl.S} {s : Po.S} (m : Nat) (y : Po.Pg) (h : PmIn U V w B L P S b N hand mp F H n d lg s) (hm : m < N) (hs : Po.Free s m → lg.stop ≤ 1000000000000) (hy : Po.PgOk y)
    (hFb : ∀ g, Fb g → ¬ Both U V g ∧ g ≠ P ∧ g ≠ mp)
    (hcl : m ∉ s.held → ∀ w2 hand2 F2, PmIn U V w2 B L P S b N hand2 mp F2 H n d lg s → Touch (· = P) w w2 → Calls Tryz.prog 49 #[.pointer (some ⟨P, 0, none⟩), .int .i64 (m : Int)] w2 fun e w' => ∃ p c, e = .returned (.tuple #[PgV y.1 (.slice p y.2.length c), .int .i64 0]) ∧ Bts w' (.slice p y.2.length c) y.2 ∧ (∀ g, (Value.slice p y.2.length c).ownBlock = some g → Fb g) ∧ Below w2.heap.size w2 w') :
    Calls Tryz.prog 48 #[.pointer (some ⟨P, 0, none⟩), .int .i64 (m : Int), .func (.func 49) #[.pointer (some ⟨P, 0, none⟩)] #[]] w fun e w' => BrA Fb U V B L P S b N mp F H n d lg s m y w e w' := by
  have hmI : -9223372036854775808 ≤ (m : Int) ∧ (m : Int) ≤ 9223372036854775807 := by have := h.pm.n16; omega
  have hfr := pmFrame_any h.pm.row h.pm.map (m : Int) hmI
  rw [hz_nat] at hfr
  have HH := Lib.hid h
  have HM := Lib.hid hm
  have HS := Lib.hid hs
  have HY := Lib.hid hy
  have HFB := Lib.hid hFb
  have HCL := Lib.hid hcl
  cases hm0 : H.getD m none with
  | some i =>
    obtain ⟨hi, hpg⟩ := h.pm.into m i hm0
    have hmem : m ∈ s.held := by rw [h.pm.held]; exact (heldL_mem H m).2 (by rw [hm0]; exact fun c => by cases c)
    have hi6 : i < 64 := by have := h.pm.bounds; have := h.pm.cnt; omega
    rw [hm0] at hfr
    have HFR := Lib.hid hfr
    have HI : Hid (i < s.held.length ∧ i < 64) := ⟨hi, hi6⟩
    have HMEM := Lib.hid hmem
    have HPG := Lib.hid hpg
    have g6 := h.pm.row.fr hi6 6 (by decide) (v := .bool (fa F i).used) rfl
    have f6 := h.pm.row.free (5 + i * 7 + 6)
    have hrow2 := h.pm.row.set hi6 6 (by decide) (.bool true) { fa F i with used := true } rfl
    have HRW := Lib.hid hrow2
    clear h hm hs hy hFb hcl hmI hfr hm0 hi hpg hmem hi6 hrow2
    go_enter Tryz.func48, Tryz.ntmps48
    go_wp2_with fail
    refine HFR.out.mono ?_
    rintro e w1 ⟨rfl, rfl⟩
    unfold frP
    dsimp only
    clear HFR
    go_wp2_with fail
    go_ret2
    have hsm : FSame F (F.set i { fa F i with used := true }) := (FSame.refl F).set (by rw [HH.out.pm.row.len]; exact HI.out.2) true
    have hpm : PmIs (w1.setCell ⟨P, 5 + i * 7 + 6, none⟩ (.bool true)) B L P S b N hand mp (F.set i { fa F i with used := true }) H s := HH.out.pm.same (T := (· = P)) (Touch.set P _ _ rfl) (fun j _ hj e => hj e) HRW.out HH.out.pm.hand hsm fun j hj => by
      rw [fa_set F (by rw [HH.out.pm.row.len]; exact HI.out.2), if_neg (by have := HI.out.1; omega)]
      exact HH.out.pm.rest j hj
    have hX := pmX_same (P := P) (mp := mp) hsm
    refine Or.inl ⟨i, hand, F.set i { fa F i with used := true }, H, U, V, d, lg, s, s.disk, rfl, HI.out.1, ?_, HMEM.out, ⟨rfl, rfl, rfl, rfl, fun _ _ => rfl, fun _ => Or.inl rfl⟩, Or.inl HMEM.out, HH.out.pm.good, ?_, ?_, fun _ => rfl, HH.out.hw, HH.out.near, id, Or.inl rfl, HH.out.rule, ?_, Touch.set P _ _ (Or.inr (Or.inl rfl)), fun _ h => Or.inl h, fun _ h => Or.inl h, ?_, fun _ => ⟨rfl, rfl⟩⟩
    · rw [fa_set F (by rw [HH.out.pm.row.len]; exact HI.out.2), if_pos rfl]
      exact HPG.out
    · exact wl_pkeep HH.out.log (Touch.set (S := (· = P)) P _ _ rfl) fun j hj e => HH.out.off j hj (e ▸ Or.inl rfl)
    · rw [show Lr.ifP (m ∈ s.held) (s.now m) y = s.now m from Lr.ifP_pos HMEM.out _ _, Po.used_upd]
      exact hpm
    · rw [hX]; exact HH.out.off
    · rw [hX]; exact fun j hj => Or.inl hj
  | none =>
    rw [hm0] at hfr
    have hb := h.pm.bounds
    have hrm := pmRoom_any h.pm.row h.pm.map h.pm.cnt.1 h.pm.cnt.2 h.pm.hand (by rw [hb.2]; exact hb.1)
    rw [hb.2] at hrm
    have HFR := Lib.hid hfr
    have HRM := Lib.hid hrm
    have HNH := Lib.hid hm0
    have HNM := Lib.hid (not_held h.pm hm0)
    have HBD := Lib.hid hb
    have HCN := Lib.hid h.pm.cnt
    clear h hm hs hy hFb hcl hmI hfr hm0 hb hrm
    go_enter Tryz.func48, Tryz.ntmps48
    go_wp2_with fail
    refine HFR.out.mono ?_
    rintro e w0 ⟨rfl, rfl⟩
    unfold frP
    dsimp only
    clear HFR
    go_wp2_with fail
    refine HRM.out.mono ?_
    rintro e w1 ⟨i, hand1, ok, F1, rfl, hrow1, hh1, hsm, hfar, ht1, hA, hB⟩
    have hz1 : ∀ j, s.held.length ≤ j → fa F1 j = Fr.zero := fun j hj => by
      by_cases hl : s.held.length < s.frames
      · rw [(hA hl).2.2]; exact HH.out.pm.rest j hj
      · rw [hfar j (by omega)]; exact HH.out.pm.rest j hj
    have hpm1 := HH.out.pm.same ht1 (fun j _ h1 h2 => h1 h2) hrow1 hh1 hsm hz1
    have hX1 := pmX_same (P := P) (mp := mp) hsm
    have HIN1 : Hid (PmIn U V w1 B L P S b N hand1 mp F1 H n d lg s) := ⟨wl_pkeep HH.out.log ht1 fun j hj e => HH.out.off j hj (e ▸ Or.inl rfl), hpm1, HH.out.lies, HH.out.hw, by rw [hX1]; exact HH.out.off, HH.out.rule, HH.out.away, HH.out.near, HH.out.n16⟩
    have HX1 := Lib.hid hX1
    have HT1 := Lib.hid ht1
    have HSM := Lib.hid hsm
    have HA := Lib.hid hA
    have HB := Lib.hid hB
    clear hrow1 hh1 hsm hfar ht1 hA hB hz1 hpm1 hX1 HRM
    rcases Bool.eq_false_or_eq_true ok with hok | hok
    case inr =>
      have HOK := Lib.hid hok
      subst hok
      clear HCL
      go_wp2_with fail
      go_ret2
      have hnl : ¬ s.held.length < s.frames := fun hl => by
        have := (HA.out hl).2.1
        cases this
      refine Or.inr (Or.inl ⟨fun hf => ?_, rfl, hand1, F1, HIN1.out, HX1.out, HT1.out.mono fun j _ e => Or.inr (Or.inl e)⟩)
      rcases hf with hf | hf
      · exact HNM.out.1 hf
      · refine hf ⟨by have := HBD.out.1; omega, fun k hk => ?_⟩
        obtain ⟨j, -, e2, e3⟩ := held_at HH.out.pm hk
        have h1 := (HH.out.pm.fr j e2).pins
        rw [e3] at h1
        have h2 := (HB.out hnl).2 trivial j (by have := HBD.out.1; omega)
        omega
    have hif : i < s.frames ∧ i ≤ s.held.length ∧ (i < s.held.length → (fa F i).pins = 0) := by
      by_cases hl : s.held.length < s.frames
      · have h1 := (HA.out hl).1
        exact ⟨by omega, by omega, fun h2 => by omega⟩
      · have h1 := (HB.out hl).1 hok
        exact ⟨h1.1, by have := h1.1; omega, fun _ => h1.2⟩
    have HIF := Lib.hid hif
    have HI6 : Hid (i < 64) := by show _ < _; have := HCN.out; omega
    have hcl := HCL.out HNM.out.1 w1 hand1 F1 HIN1.out HT1.out
    have HCX := Lib.hid hcl
    subst hok
    clear hcl hif HCL HA HB
    go_wp2_with fail
    refine HCX.out.mono ?_
    rintro e w2 ⟨pu, cu, rfl, hBu, hFu, hb2⟩
    obtain ⟨R, hR⟩ : ∃ R, R = w2.heap.size := ⟨_, rfl⟩
    obtain ⟨W2, hW2⟩ : ∃ W2, W2 = w2.alloc (.cells #[.int .u64 (y.1 : Int), .slice pu y.2.length cu] 59) := ⟨_, rfl⟩
    have hb3 : Below w2.heap.size w2 W2 := by rw [hW2]; exact (Below.refl _ _).alloc (Nat.le_refl _) _
    have hb23 : Below w1.heap.size w1 W2 := hb2.trans (hb3.mono hb2.size)
    have hprow : W2.heap[R]? = some (.cells #[.int .u64 (y.1 : Int), .slice pu y.2.length cu] 59 (0, 0)) := by rw [hW2, hR]; exact heap_alloc_last _ _
    have HIN2 := Lib.hid (HIN1.out.below hb23)
    have HBU := Lib.hid (hBu.below hb3)
    have HFU := Lib.hid hFu
    have HPR := Lib.hid hprow
    have HT2 : Hid (Touch (fun j => Both U V j ∨ j = P ∨ j = mp) w0 W2) := (HT1.out.mono fun j _ e => Or.inr (Or.inl e)).trans (Touch.of_new hb23)
    have HRS : Hid (w0.heap.size ≤ R) := by show _ ≤ _; rw [hR]; exact Nat.le_trans HT1.out.size hb2.size
    have HSZ2 : Hid (w0.heap.size ≤ W2.heap.size) := Nat.le_trans HT1.out.size hb23.size
    unfold PgV
    go_upto_region 7 with (fail)
    rw [← hW2, ← hR]
    clear hBu hFu hb2 hb3 hb23 hprow hW2 hR HCX
    have c5 := HIN2.out.pm.row.cMap
    have hln := HIN2.out.pm.map.len_run
    rw [HIN2.out.pm.bounds.2] at hln
    have hi64 : (i : Int) < 64 := by have := HI6.out; omega
    by_cases hil : i < s.held.length
    case pos =>
      have hil2 : (i : Int) < (s.held.length : Int) := by omega
      have HIL := Lib.hid hil
      have hfree : Po.Free s m := Or.inr (Po.not_full (k := (fa F1 i).page) (by rw [HH.out.pm.held]; exact (heldL_mem H _).2 (by rw [HIN2.out.pm.onto i HIL.out]; exact fun c => by cases c)) ((HIN2.out.pm.fr i HIL.out).pins.trans ((HSM.out.pins i).trans (HIF.out.2.2 HIL.out))))
      have HGV := Lib.hid (pmGive_any HIN2.out hil (HS.out hfree))
      have HFREE := Lib.hid hfree
      clear hfree
      clear hil
      go_wp2_with fail
      refine HGV.out.mono ?_
      intro e w3 hgv
      rcases hgv with ⟨rfl, wg, hok, htm, hmp3⟩ | ⟨hnc, rfl, her⟩
      case inr =>
        have HE : Hid (_ ∧ _) := ⟨hnc, her⟩
        clear hnc her HGV hln c5
        go_wp2_with fail
        go_ret2
        obtain ⟨hnc, U', d', lg', c, e1, e2, e3, e4, e5, e6⟩ := HE.out
        refine Or.inr (Or.inr ⟨hnc, rfl, U', d', lg', c, e1, e2, HT2.out.trans (e3.mono fun j _ e => ?_), fun j hj => ?_, e5, e6⟩)
        · rcases e with e | e
          · exact Or.inl e
          · exact Or.inr (Or.inl e)
        · rcases e4 j hj with h1 | h1
          · exact Or.inl h1
          · exact Or.inr (Nat.le_trans HSZ2.out h1)
      obtain ⟨U1, V1, d1, lg1, hin, hcalm, hlf, htg, hgu, hgv, hnone⟩ := hok
      obtain ⟨F4, hF4⟩ : ∃ F4, F4 = F1.set i { fa F1 i with dirty := false } := ⟨_, rfl⟩
      have hF1l : i < F1.length := by rw [HIN2.out.pm.row.len]; exact HI6.out
      have hfa4 : fa F4 i = { fa F1 i with dirty := false } := by rw [hF4, fa_set F1 hF1l, if_pos rfl]
      have hX4 : PmX P mp F4 = PmX P mp F := by rw [hF4, pmX_set F1 hF1l { fa F1 i with dirty := false } rfl, HX1.out]
      rw [← hF4] at hin
      have hpf4 : (fa F4 i).page = (fa F1 i).page := by rw [hfa4]
      have hul : ∀ g, (Value.slice pu y.2.length cu).ownBlock = some g → g < W2.heap.size := HBU.out.own_lt (by rw [HY.out.2.1]; decide)
      have hRU : ¬ (Both U V R ∨ R = P) := fun h => by
        have h1 := HRS.out
        rcases h with h | h
        · have := wl_plt HH.out.log R h; omega
        · have := HH.out.pm.row.lt; omega
      have HPRC : Hid (w3.heap[R]? = some (.cells #[.int .u64 (y.1 : Int), .slice pu y.2.length cu] 59 (0, 0))) := htm.row (htg.row HPR.out hRU) fun e => by
        have h1 := HRS.out
        have h2 := HH.out.pm.map.lt
        omega
      have HRWC : Hid (PmRow w3 P B S b N L s.frames hand1 mp F4) := hin.pm.row.touch htm hin.pm.ne
      have HMPC := Lib.hid hmp3
      have HLC : Hid ((H.set (fa F1 i).page none).length = N) := by show _ = _; rw [List.length_set]; exact HH.out.pm.hlen
      have HIN3 := Lib.hid hin
      have HPOK : Hid (_ ∧ _ ∧ _ ∧ _ ∧ _ ∧ _ ∧ _) := ⟨hcalm, hlf, htg, hgu, hgv, hnone, htm⟩
      have HF : Hid (fa F4 i = { fa F1 i with dirty := false } ∧ PmX P mp F4 = PmX P mp F ∧ (fa F4 i).page = (fa F1 i).page) := ⟨hfa4, hX4, hpf4⟩
      have HUL := Lib.hid hul
      clear hin hcalm hlf htg hgu hgv hnone hF4 hF1l hfa4 hX4 hpf4 hul hRU htm hmp3 HGV hln c5 hil2
      have k0 := HRWC.out.fr HI6.out 0 (by decide) (v := .int .i64 ((fa F4 i).page : Int)) rfl
      rw [Nat.add_zero] at k0
      have k1 := HRWC.out.fr HI6.out 1 (by decide) (v := .int .u64 ((fa F4 i).lsn : Int)) rfl
      have k2 := HRWC.out.fr HI6.out 2 (by decide) (v := (fa F4 i).u) rfl
      have k3 := HRWC.out.fr HI6.out 3 (by decide) (v := .int .i64 ((fa F4 i).pins : Int)) rfl
      have k4 := HRWC.out.fr HI6.out 4 (by decide) (v := .bool (fa F4 i).dirty) rfl
      have k5 := HRWC.out.fr HI6.out 5 (by decide) (v := .int .u64 ((fa F4 i).first : Int)) rfl
      have k6 := HRWC.out.fr HI6.out 6 (by decide) (v := .bool (fa F4 i).used) rfl
      have f0 := HRWC.out.free (5 + i * 7)
      have f1 := HRWC.out.free (5 + i * 7 + 1)
      have f2 := HRWC.out.free (5 + i * 7 + 2)
      have f3 := HRWC.out.free (5 + i * 7 + 3)
      have f4 := HRWC.out.free (5 + i * 7 + 4)
      have f5 := HRWC.out.free (5 + i * 7 + 5)
      have f6 := HRWC.out.free (5 + i * 7 + 6)
      have p0 := blk_cell HPRC.out 0 (v := .int .u64 (y.1 : Int)) rfl
      have p1 := blk_cell HPRC.out 1 (v := .slice pu y.2.length cu) rfl
      have hrow5 := HRWC.out.set7 HI6.out ⟨m, y.1, .slice pu y.2.length cu, 0, false, 0, false⟩
      obtain ⟨W5, hW5⟩ : ∃ W5, W5 = (((((((w3.setCell ⟨P, 5 + i * 7, none⟩ (.int .i64 (m : Int))).setCell ⟨P, 5 + i * 7 + 1, none⟩ (.int .u64 (y.1 : Int))).setCell ⟨P, 5 + i * 7 + 2, none⟩ (.slice pu y.2.length cu)).setCell ⟨P, 5 + i * 7 + 3, none⟩ (.int .i64 0)).setCell ⟨P, 5 + i * 7 + 4, none⟩ (.bool false)).setCell ⟨P, 5 + i * 7 + 5, none⟩ (.int .u64 0)).setCell ⟨P, 5 + i * 7 + 6, none⟩ (.bool false)) := ⟨_, rfl⟩
      have ht5 : Touch (· = P) w3 W5 := by
        rw [hW5]
        exact ((((((Touch.set (S := (· = P)) P _ _ rfl).trans (Touch.set P _ _ rfl)).trans (Touch.set P _ _ rfl)).trans (Touch.set P _ _ rfl)).trans (Touch.set P _ _ rfl)).trans (Touch.set P _ _ rfl)).trans (Touch.set P _ _ rfl)
      have hrow5 : PmRow W5 P B S b N L s.frames hand1 mp (F4.set i ⟨m, y.1, .slice pu y.2.length cu, 0, false, 0, false⟩) := by rw [hW5]; exact hrow5
      have hne : P ≠ mp := HH.out.pm.ne
      obtain ⟨W6, hrun, hmap6, ht6⟩ := (HMPC.out.touch ht5 (fun e => hne e.symm)).put (k := m) (by rw [HLC.out]; exact HM.out) HI6.out
      have hrow6 := hrow5.touch ht6 hne
      have hF46 : F4.length = 64 := HRWC.out.len
      have g6 := hrow6.fr HI6.out 6 (by decide) (v := .bool false) (by rw [fa_set F4 (by rw [hF46]; exact HI6.out), if_pos rfl]; rfl)
      have e6 := hrow6.free (5 + i * 7 + 6)
      have m5 := hrow5.cMap
      have hrow7 := PmRow.again hF46 HI6.out hrow6 6 (by decide) (.bool true) ⟨m, y.1, .slice pu y.2.length cu, 0, false, 0, true⟩ rfl
      have hmap7 : HmAt (W6.setCell ⟨P, 5 + i * 7 + 6, none⟩ (.bool true)) mp ((H.set (fa F1 i).page none).set m (some i)) := hmap6.touch (Touch.set (S := (· = P)) P _ _ rfl) fun e => hne e.symm
      have ht7 : Touch (fun j => j = P ∨ j = mp) w3 (W6.setCell ⟨P, 5 + i * 7 + 6, none⟩ (.bool true)) := ((ht5.mono fun _ _ e => Or.inl e).trans (ht6.mono fun _ _ e => Or.inr e)).trans (Touch.set P _ _ (Or.inl rfl))
      have HR7 := Lib.hid hrow7
      have HM7 := Lib.hid hmap7
      have HT7 := Lib.hid ht7
      clear hrow5 ht5 hne hmap6 ht6 hrow6 hF46 hrow7 hmap7 ht7
      go_upto_region 15 with (fail)
      rw [← hW5]
      clear k0 k1 k2 k3 k4 k5 k6 f0 f1 f2 f3 f4 f5 f6 p0 p1 hW5
      go_wp2_with fail
      go_ret2
      obtain ⟨hcalm, hlf, htg, hgu, hgv, hnone, htm⟩ := HPOK.out
      obtain ⟨hfa4, hX4, hpf4⟩ := HF.out
      have h7 := h7_evict HIN3.out.pm HIL.out HM.out HNH.out
      rw [hpf4] at h7
      have hsz := HSZ2.out
      have hbf := br_final (m := m) (y := y) HIN3.out ((htm.mono fun _ _ e => Or.inr e).trans HT7.out) HIF.out.2.1 HIF.out.1 HM.out HNH.out HY.out (htg.bts HBU.out fun _ g hg e => ?_) (fun g hg => ?_) (fun _ => ?_) HR7.out HM7.out h7
      · obtain ⟨hgood, hmem, hil9, hlog, hpm9, hoff9, hX9, hdk⟩ := hbf
        have hold : (fa F1 i).page ≠ m := fun e => by
          have h1 := HIN2.out.pm.onto i HIL.out
          rw [e, HNH.out] at h1; cases h1
        have hfree := HFREE.out
        refine Or.inl ⟨i, hand1, F4.set i ⟨m, y.1, .slice pu y.2.length cu, 0, false, 0, true⟩, (H.set (fa F1 i).page none).set m (some i), U1, V1, d1, lg1, { Po.cleaned s (fa F1 i).page with held := heldL ((H.set (fa F1 i).page none).set m (some i)) }, Po.upd (Po.cleaned s (fa F1 i).page).disk m y, rfl, hil9, ?_, hmem, ⟨rfl, rfl, rfl, rfl, fun k hk => ?_, fun k => ?_⟩, hfree, hgood, hlog, ?_, fun e => ?_, HIN3.out.hw, HIN3.out.near, hcalm, hlf, HIN3.out.rule, hoff9, ?_, fun j hj => ?_, fun j hj => ?_, fun j hj => ?_, fun hn => hnone (hn _)⟩
        · rw [fa_set F4 (by rw [HRWC.out.len]; exact HI6.out), if_pos rfl]
        · refine Po.upd_ne _ _ fun e => (heldL_mem _ k).1 hk ?_
          rw [h7.oth k (by rw [e]; exact hold), e, HIN2.out.pm.onto i HIL.out, if_pos rfl]
        · show Po.upd s.disk _ _ k = _ ∨ Po.upd s.disk _ _ k = _
          unfold Po.upd
          split
          · next e => exact Or.inr (by rw [e])
          · exact Or.inl rfl
        · rw [Lr.ifP_neg HNM.out.1]
          exact hpm9
        · exact Po.upd_same _ _ _ (by rw [e]; exact hdk)
        · refine ((HT2.out.trans (htg.mono fun j _ e => ?_)).trans (htm.mono fun j _ e => Or.inr (Or.inr e))).trans (HT7.out.mono fun j _ e => Or.inr e)
          rcases e with e | e
          · exact Or.inl e
          · exact Or.inr (Or.inl e)
        · rcases hgu j hj with h1 | h1
          · exact Or.inl h1
          · exact Or.inr (Nat.le_trans hsz h1)
        · rcases hgv j hj with h1 | h1
          · exact Or.inl h1
          · exact Or.inr (Nat.le_trans hsz h1)
        · rcases hX9 j hj with h1 | h1
          · exact Or.inl (by rw [← hX4]; exact h1)
          · exact Or.inr (Or.inr (HFU.out j h1))
      · obtain ⟨h1, h2, h3⟩ := HFB.out g (HFU.out g hg)
        rcases e with e | e
        · exact h1 e
        · exact h2 e
      · obtain ⟨h1, h2, h3⟩ := HFB.out g (HFU.out g hg)
        have h4 := HUL.out g hg
        refine ⟨fun e => ?_, h2, h3⟩
        rcases e with e | e
        · rcases hgu g e with h5 | h5
          · exact h1 (Or.inl h5)
          · omega
        · rcases hgv g e with h5 | h5
          · exact h1 (Or.inr h5)
          · omega
      · rw [hfa4]
        exact ⟨(HSM.out.pins i).trans (HIF.out.2.2 HIL.out), rfl⟩
    case neg =>
      have hil2 : ¬ (i : Int) < (s.held.length : Int) := by omega
      have HIL : Hid (¬ i < s.held.length) := hil
      have HPRC := HPR
      have HRWC := Lib.hid HIN2.out.pm.row
      have HMPC := Lib.hid HIN2.out.pm.map
      have HLC : Hid (H.length = N) := HH.out.pm.hlen
      clear hil
      have k0 := HRWC.out.fr HI6.out 0 (by decide) (v := .int .i64 ((fa F1 i).page : Int)) rfl
      rw [Nat.add_zero] at k0
      have k1 := HRWC.out.fr HI6.out 1 (by decide) (v := .int .u64 ((fa F1 i).lsn : Int)) rfl
      have k2 := HRWC.out.fr HI6.out 2 (by decide) (v := (fa F1 i).u) rfl
      have k3 := HRWC.out.fr HI6.out 3 (by decide) (v := .int .i64 ((fa F1 i).pins : Int)) rfl
      have k4 := HRWC.out.fr HI6.out 4 (by decide) (v := .bool (fa F1 i).dirty) rfl
      have k5 := HRWC.out.fr HI6.out 5 (by decide) (v := .int .u64 ((fa F1 i).first : Int)) rfl
      have k6 := HRWC.out.fr HI6.out 6 (by decide) (v := .bool (fa F1 i).used) rfl
      have f0 := HRWC.out.free (5 + i * 7)
      have f1 := HRWC.out.free (5 + i * 7 + 1)
      have f2 := HRWC.out.free (5 + i * 7 + 2)
      have f3 := HRWC.out.free (5 + i * 7 + 3)
      have f4 := HRWC.out.free (5 + i * 7 + 4)
      have f5 := HRWC.out.free (5 + i * 7 + 5)
      have f6 := HRWC.out.free (5 + i * 7 + 6)
      have p0 := blk_cell HPRC.out 0 (v := .int .u64 (y.1 : Int)) rfl
      have p1 := blk_cell HPRC.out 1 (v := .slice pu y.2.length cu) rfl
      have hrow5 := HRWC.out.set7 HI6.out ⟨m, y.1, .slice pu y.2.length cu, 0, false, 0, false⟩
      obtain ⟨W5, hW5⟩ : ∃ W5, W5 = (((((((W2.setCell ⟨P, 5 + i * 7, none⟩ (.int .i64 (m : Int))).setCell ⟨P, 5 + i * 7 + 1, none⟩ (.int .u64 (y.1 : Int))).setCell ⟨P, 5 + i * 7 + 2, none⟩ (.slice pu y.2.length cu)).setCell ⟨P, 5 + i * 7 + 3, none⟩ (.int .i64 0)).setCell ⟨P, 5 + i * 7 + 4, none⟩ (.bool false)).setCell ⟨P, 5 + i * 7 + 5, none⟩ (.int .u64 0)).setCell ⟨P, 5 + i * 7 + 6, none⟩ (.bool false)) := ⟨_, rfl⟩
      have ht5 : Touch (· = P) W2 W5 := by
        rw [hW5]
        exact ((((((Touch.set (S := (· = P)) P _ _ rfl).trans (Touch.set P _ _ rfl)).trans (Touch.set P _ _ rfl)).trans (Touch.set P _ _ rfl)).trans (Touch.set P _ _ rfl)).trans (Touch.set P _ _ rfl)).trans (Touch.set P _ _ rfl)
      have hrow5 : PmRow W5 P B S b N L s.frames hand1 mp (F1.set i ⟨m, y.1, .slice pu y.2.length cu, 0, false, 0, false⟩) := by rw [hW5]; exact hrow5
      have hne : P ≠ mp := HH.out.pm.ne
      obtain ⟨W6, hrun, hmap6, ht6⟩ := (HMPC.out.touch ht5 (fun e => hne e.symm)).put (k := m) (by rw [HLC.out]; exact HM.out) HI6.out
      have hrow6 := hrow5.touch ht6 hne
      have hF46 : F1.length = 64 := HRWC.out.len
      have g6 := hrow6.fr HI6.out 6 (by decide) (v := .bool false) (by rw [fa_set F1 (by rw [hF46]; exact HI6.out), if_pos rfl]; rfl)
      have e6 := hrow6.free (5 + i * 7 + 6)
      have m5 := hrow5.cMap
      have hrow7 := PmRow.again hF46 HI6.out hrow6 6 (by decide) (.bool true) ⟨m, y.1, .slice pu y.2.length cu, 0, false, 0, true⟩ rfl
      have hmap7 : HmAt (W6.setCell ⟨P, 5 + i * 7 + 6, none⟩ (.bool true)) mp (H.set m (some i)) := hmap6.touch (Touch.set (S := (· = P)) P _ _ rfl) fun e => hne e.symm
      have ht7 : Touch (fun j => j = P ∨ j = mp) W2 (W6.setCell ⟨P, 5 + i * 7 + 6, none⟩ (.bool true)) := ((ht5.mono fun _ _ e => Or.inl e).trans (ht6.mono fun _ _ e => Or.inr e)).trans (Touch.set P _ _ (Or.inl rfl))
      have HR7 := Lib.hid hrow7
      have HM7 := Lib.hid hmap7
      have HT7 := Lib.hid ht7
      clear hrow5 ht5 hne hmap6 ht6 hrow6 hF46 hrow7 hmap7 ht7
      go_upto_region 15 with (fail)
      rw [← hW5]
      clear k0 k1 k2 k3 k4 k5 k6 f0 f1 f2 f3 f4 f5 f6 p0 p1 hW5
      go_wp2_with fail
      go_ret2
      have hie : i = s.held.length := by have := HIF.out.2.1; have := HIL.out; omega
      have h7 := h7_free HIN2.out.pm hie HM.out HNH.out
      have hbf := br_final (m := m) (y := y) HIN2.out HT7.out HIF.out.2.1 HIF.out.1 HM.out HNH.out HY.out HBU.out (fun g hg => HFB.out g (HFU.out g hg)) (fun h => absurd h HIL.out) HR7.out HM7.out h7
      obtain ⟨hgood, hmem, hil9, hlog, hpm9, hoff9, hX9, hdk⟩ := hbf
      refine Or.inl ⟨i, hand1, F1.set i ⟨m, y.1, .slice pu y.2.length cu, 0, false, 0, true⟩, H.set m (some i), U, V, d, lg, { s with held := heldL (H.set m (some i)) }, Po.upd s.disk m y, rfl, hil9, ?_, hmem, ⟨rfl, rfl, rfl, rfl, fun k hk => rfl, fun k => Or.inl rfl⟩, Or.inr (fun hf => by have := hf.1; have := HIF.out.1; omega), hgood, hlog, ?_, fun e => ?_, HIN2.out.hw, HIN2.out.near, id, Or.inl rfl, HIN2.out.rule, hoff9, ?_, fun j hj => Or.inl hj, fun j hj => Or.inl hj, fun j hj => ?_, fun _ => ⟨rfl, rfl⟩⟩
      · rw [fa_set F1 (by rw [HRWC.out.len]; exact HI6.out), if_pos rfl]
      · rw [Lr.ifP_neg HNM.out.1]
        exact hpm9
      · exact Po.upd_same _ _ _ (by rw [e]; exact hdk)
      · exact HT2.out.trans (HT7.out.mono fun j _ e => Or.inr e)
      · rcases hX9 j hj with h1 | h1
        · exact Or.inl (by rw [← HX1.out]; exact h1)
        · exact Or.inr (Or.inr (HFU.out j h1))
set_option maxHeartbeats 12800000 in
set_option maxRecDepth 20000 in
theorem pmBrought_put {Fb U V : Nat → Prop} {w : World} {B L P S b N hand mp n : Nat} {F : List Fr} {H : List (Option Nat)} {d : Dk.Dev} {lg : Wl.S} {s : Po.S} (m : Nat) (y : Po.Pg) (G : Nat) (h : PmIn U V w B L P S b N hand mp F H n d lg s) (hm : m < N) (hs : Po.Free s m → lg.stop ≤ 1000000000000) (hy : Po.PgOk y)
    (hFb : ∀ g, Fb g → ¬ Both U V g ∧ g ≠ P ∧ g ≠ mp)
    (hcl : m ∉ s.held → ∀ w2 hand2 F2, PmIn U V w2 B L P S b N hand2 mp F2 H n d lg s → Touch (· = P) w w2 → Calls Tryz.prog 51 #[.int .i64 (m : Int), .pointer (some ⟨G, 0, none⟩)] w2 fun e w' => ∃ p c, e = .returned (.tuple #[PgV y.1 (.slice p y.2.length c), .int .i64 0]) ∧ Bts w' (.slice p y.2.length c) y.2 ∧ (∀ g, (Value.slice p y.2.length c).ownBlock = some g → Fb g) ∧ Below w2.heap.size w2 w') :
    Calls Tryz.prog 48 #[.pointer (some ⟨P, 0, none⟩), .int .i64 (m : Int), .func (.func 51) #[] #[.pointer (some ⟨G, 0, none⟩)]] w fun e w' => BrA Fb U V B L P S b N mp F H n d lg s m y w e w' := by
  have hmI : -9223372036854775808 ≤ (m : Int) ∧ (m : Int) ≤ 9223372036854775807 := by have := h.pm.n16; omega
  have hfr := pmFrame_any h.pm.row h.pm.map (m : Int) hmI
  rw [hz_nat] at hfr
  have HH := Lib.hid h
  have HM := Lib.hid hm
  have HS := Lib.hid hs
  have HY := Lib.hid hy
  have HFB := Lib.hid hFb
  have HCL := Lib.hid hcl
  cases hm0 : H.getD m none with
  | some i =>
    obtain ⟨hi, hpg⟩ := h.pm.into m i hm0
    have hmem : m ∈ s.held := by rw [h.pm.held]; exact (heldL_mem H m).2 (by rw [hm0]; exact fun c => by cases c)
    have hi6 : i < 64 := by have := h.pm.bounds; have := h.pm.cnt; omega
    rw [hm0] at hfr
    have HFR := Lib.hid hfr
    have HI : Hid (i < s.held.length ∧ i < 64) := ⟨hi, hi6⟩
    have HMEM := Lib.hid hmem
    have HPG := Lib.hid hpg
    have g6 := h.pm.row.fr hi6 6 (by decide) (v := .bool (fa F i).used) rfl
    have f6 := h.pm.row.free (5 + i * 7 + 6)
    have hrow2 := h.pm.row.set hi6 6 (by decide) (.bool true) { fa F i with used := true } rfl
    have HRW := Lib.hid hrow2
    clear h hm hs hy hFb hcl hmI hfr hm0 hi hpg hmem hi6 hrow2
    go_enter Tryz.func48, Tryz.ntmps48
    go_wp2_with fail
    refine HFR.out.mono ?_
    rintro e w1 ⟨rfl, rfl⟩
    unfold frP
    dsimp only
    clear HFR
    go_wp2_with fail
    go_ret2
    have hsm : FSame F (F.set i { fa F i with used := true }) := (FSame.refl F).set (by rw [HH.out.pm.row.len]; exact HI.out.2) true
    have hpm : PmIs (w1.setCell ⟨P, 5 + i * 7 + 6, none⟩ (.bool true)) B L P S b N hand mp (F.set i { fa F i with used := true }) H s := HH.out.pm.same (T := (· = P)) (Touch.set P _ _ rfl) (fun j _ hj e => hj e) HRW.out HH.out.pm.hand hsm fun j hj => by
      rw [fa_set F (by rw [HH.out.pm.row.len]; exact HI.out.2), if_neg (by have := HI.out.1; omega)]
      exact HH.out.pm.rest j hj
    have hX := pmX_same (P := P) (mp := mp) hsm
    refine Or.inl ⟨i, hand, F.set i { fa F i with used := true }, H, U, V, d, lg, s, s.disk, rfl, HI.out.1, ?_, HMEM.out, ⟨rfl, rfl, rfl, rfl, fun _ _ => rfl, fun _ => Or.inl rfl⟩, Or.inl HMEM.out, HH.out.pm.good, ?_, ?_, fun _ => rfl, HH.out.hw, HH.out.near, id, Or.inl rfl, HH.out.rule, ?_, Touch.set P _ _ (Or.inr (Or.inl rfl)), fun _ h => Or.inl h, fun _ h => Or.inl h, ?_, fun _ => ⟨rfl, rfl⟩⟩
    · rw [fa_set F (by rw [HH.out.pm.row.len]; exact HI.out.2), if_pos rfl]
      exact HPG.out
    · exact wl_pkeep HH.out.log (Touch.set (S := (· = P)) P _ _ rfl) fun j hj e => HH.out.off j hj (e ▸ Or.inl rfl)
    · rw [show Lr.ifP (m ∈ s.held) (s.now m) y = s.now m from Lr.ifP_pos HMEM.out _ _, Po.used_upd]
      exact hpm
    · rw [hX]; exact HH.out.off
    · rw [hX]; exact fun j hj => Or.inl hj
  | none =>
    rw [hm0] at hfr
    have hb := h.pm.bounds
    have hrm := pmRoom_any h.pm.row h.pm.map h.pm.cnt.1 h.pm.cnt.2 h.pm.hand (by rw [hb.2]; exact hb.1)
    rw [hb.2] at hrm
    have HFR := Lib.hid hfr
    have HRM := Lib.hid hrm
    have HNH := Lib.hid hm0
    have HNM := Lib.hid (not_held h.pm hm0)
    have HBD := Lib.hid hb
    have HCN := Lib.hid h.pm.cnt
    clear h hm hs hy hFb hcl hmI hfr hm0 hb hrm
    go_enter Tryz.func48, Tryz.ntmps48
    go_wp2_with fail
    refine HFR.out.mono ?_
    rintro e w0 ⟨rfl, rfl⟩
    unfold frP
    dsimp only
    clear HFR
    go_wp2_with fail
    refine HRM.out.mono ?_
    rintro e w1 ⟨i, hand1, ok, F1, rfl, hrow1, hh1, hsm, hfar, ht1, hA, hB⟩
    have hz1 : ∀ j, s.held.length ≤ j → fa F1 j = Fr.zero := fun j hj => by
      by_cases hl : s.held.length < s.frames
      · rw [(hA hl).2.2]; exact HH.out.pm.rest j hj
      · rw [hfar j (by omega)]; exact HH.out.pm.rest j hj
    have hpm1 := HH.out.pm.same ht1 (fun j _ h1 h2 => h1 h2) hrow1 hh1 hsm hz1
    have hX1 := pmX_same (P := P) (mp := mp) hsm
    have HIN1 : Hid (PmIn U V w1 B L P S b N hand1 mp F1 H n d lg s) := ⟨wl_pkeep HH.out.log ht1 fun j hj e => HH.out.off j hj (e ▸ Or.inl rfl), hpm1, HH.out.lies, HH.out.hw, by rw [hX1]; exact HH.out.off, HH.out.rule, HH.out.away, HH.out.near, HH.out.n16⟩
    have HX1 := Lib.hid hX1
    have HT1 := Lib.hid ht1
    have HSM := Lib.hid hsm
    have HA := Lib.hid hA
    have HB := Lib.hid hB
    clear hrow1 hh1 hsm hfar ht1 hA hB hz1 hpm1 hX1 HRM
    rcases Bool.eq_false_or_eq_true ok with hok | hok
    case inr =>
      have HOK := Lib.hid hok
      subst hok
      clear HCL
      go_wp2_with fail
      go_ret2
      have hnl : ¬ s.held.length < s.frames := fun hl => by
        have := (HA.out hl).2.1
        cases this
      refine Or.inr (Or.inl ⟨fun hf => ?_, rfl, hand1, F1, HIN1.out, HX1.out, HT1.out.mono fun j _ e => Or.inr (Or.inl e)⟩)
      rcases hf with hf | hf
      · exact HNM.out.1 hf
      · refine hf ⟨by have := HBD.out.1; omega, fun k hk => ?_⟩
        obtain ⟨j, -, e2, e3⟩ := held_at HH.out.pm hk
        have h1 := (HH.out.pm.fr j e2).pins
        rw [e3] at h1
        have h2 := (HB.out hnl).2 trivial j (by have := HBD.out.1; omega)
        omega
    have hif : i < s.frames ∧ i ≤ s.held.length ∧ (i < s.held.length → (fa F i).pins = 0) := by
      by_cases hl : s.held.length < s.frames
      · have h1 := (HA.out hl).1
        exact ⟨by omega, by omega, fun h2 => by omega⟩
      · have h1 := (HB.out hl).1 hok
        exact ⟨h1.1, by have := h1.1; omega, fun _ => h1.2⟩
    have HIF := Lib.hid hif
    have HI6 : Hid (i < 64) := by show _ < _; have := HCN.out; omega
    have hcl := HCL.out HNM.out.1 w1 hand1 F1 HIN1.out HT1.out
    have HCX := Lib.hid hcl
    subst hok
    clear hcl hif HCL HA HB
    go_wp2_with fail
    refine HCX.out.mono ?_
    rintro e w2 ⟨pu, cu, rfl, hBu, hFu, hb2⟩
    obtain ⟨R, hR⟩ : ∃ R, R = w2.heap.size := ⟨_, rfl⟩
    obtain ⟨W2, hW2⟩ : ∃ W2, W2 = w2.alloc (.cells #[.int .u64 (y.1 : Int), .slice pu y.2.length cu] 59) := ⟨_, rfl⟩
    have hb3 : Below w2.heap.size w2 W2 := by rw [hW2]; exact (Below.refl _ _).alloc (Nat.le_refl _) _
    have hb23 : Below w1.heap.size w1 W2 := hb2.trans (hb3.mono hb2.size)
    have hprow : W2.heap[R]? = some (.cells #[.int .u64 (y.1 : Int), .slice pu y.2.length cu] 59 (0, 0)) := by rw [hW2, hR]; exact heap_alloc_last _ _
    have HIN2 := Lib.hid (HIN1.out.below hb23)
    have HBU := Lib.hid (hBu.below hb3)
    have HFU := Lib.hid hFu
    have HPR := Lib.hid hprow
    have HT2 : Hid (Touch (fun j => Both U V j ∨ j = P ∨ j = mp) w0 W2) := (HT1.out.mono fun j _ e => Or.inr (Or.inl e)).trans (Touch.of_new hb23)
    have HRS : Hid (w0.heap.size ≤ R) := by show _ ≤ _; rw [hR]; exact Nat.le_trans HT1.out.size hb2.size
    have HSZ2 : Hid (w0.heap.size ≤ W2.heap.size) := Nat.le_trans HT1.out.size hb23.size
    unfold PgV
    go_upto_region 7 with (fail)
    rw [← hW2, ← hR]
    clear hBu hFu hb2 hb3 hb23 hprow hW2 hR HCX
    have c5 := HIN2.out.pm.row.cMap
    have hln := HIN2.out.pm.map.len_run
    rw [HIN2.out.pm.bounds.2] at hln
    have hi64 : (i : Int) < 64 := by have := HI6.out; omega
    by_cases hil : i < s.held.length
    case pos =>
      have hil2 : (i : Int) < (s.held.length : Int) := by omega
      have HIL := Lib.hid hil
      have hfree : Po.Free s m := Or.inr (Po.not_full (k := (fa F1 i).page) (by rw [HH.out.pm.held]; exact (heldL_mem H _).2 (by rw [HIN2.out.pm.onto i HIL.out]; exact fun c => by cases c)) ((HIN2.out.pm.fr i HIL.out).pins.trans ((HSM.out.pins i).trans (HIF.out.2.2 HIL.out))))
      have HGV := Lib.hid (pmGive_any HIN2.out hil (HS.out hfree))
      have HFREE := Lib.hid hfree
      clear hfree
      clear hil
      go_wp2_with fail
      refine HGV.out.mono ?_
      intro e w3 hgv
      rcases hgv with ⟨rfl, wg, hok, htm, hmp3⟩ | ⟨hnc, rfl, her⟩
      case inr =>
        have HE : Hid (_ ∧ _) := ⟨hnc, her⟩
        clear hnc her HGV hln c5
        go_wp2_with fail
        go_ret2
        obtain ⟨hnc, U', d', lg', c, e1, e2, e3, e4, e5, e6⟩ := HE.out
        refine Or.inr (Or.inr ⟨hnc, rfl, U', d', lg', c, e1, e2, HT2.out.trans (e3.mono fun j _ e => ?_), fun j hj => ?_, e5, e6⟩)
        · rcases e with e | e
          · exact Or.inl e
          · exact Or.inr (Or.inl e)
        · rcases e4 j hj with h1 | h1
          · exact Or.inl h1
          · exact Or.inr (Nat.le_trans HSZ2.out h1)
      obtain ⟨U1, V1, d1, lg1, hin, hcalm, hlf, htg, hgu, hgv, hnone⟩ := hok
      obtain ⟨F4, hF4⟩ : ∃ F4, F4 = F1.set i { fa F1 i with dirty := false } := ⟨_, rfl⟩
      have hF1l : i < F1.length := by rw [HIN2.out.pm.row.len]; exact HI6.out
      have hfa4 : fa F4 i = { fa F1 i with dirty := false } := by rw [hF4, fa_set F1 hF1l, if_pos rfl]
      have hX4 : PmX P mp F4 = PmX P mp F := by rw [hF4, pmX_set F1 hF1l { fa F1 i with dirty := false } rfl, HX1.out]
      rw [← hF4] at hin
      have hpf4 : (fa F4 i).page = (fa F1 i).page := by rw [hfa4]
      have hul : ∀ g, (Value.slice pu y.2.length cu).ownBlock = some g → g < W2.heap.size := HBU.out.own_lt (by rw [HY.out.2.1]; decide)
      have hRU : ¬ (Both U V R ∨ R = P) := fun h => by
        have h1 := HRS.out
        rcases h with h | h
        · have := wl_plt HH.out.log R h; omega
        · have := HH.out.pm.row.lt; omega
      have HPRC : Hid (w3.heap[R]? = some (.cells #[.int .u64 (y.1 : Int), .slice pu y.2.length cu] 59 (0, 0))) := htm.row (htg.row HPR.out hRU) fun e => by
        have h1 := HRS.out
        have h2 := HH.out.pm.map.lt
        omega
      have HRWC : Hid (PmRow w3 P B S b N L s.frames hand1 mp F4) := hin.pm.row.touch htm hin.pm.ne
      have HMPC := Lib.hid hmp3
      have HLC : Hid ((H.set (fa F1 i).page none).length = N) := by show _ = _; rw [List.length_set]; exact HH.out.pm.hlen
      have HIN3 := Lib.hid hin
      have HPOK : Hid (_ ∧ _ ∧ _ ∧ _ ∧ _ ∧ _ ∧ _) := ⟨hcalm, hlf, htg, hgu, hgv, hnone, htm⟩
      have HF : Hid (fa F4 i = { fa F1 i with dirty := false } ∧ PmX P mp F4 = PmX P mp F ∧ (fa F4 i).page = (fa F1 i).page) := ⟨hfa4, hX4, hpf4⟩
      have HUL := Lib.hid hul
      clear hin hcalm hlf htg hgu hgv hnone hF4 hF1l hfa4 hX4 hpf4 hul hRU htm hmp3 HGV hln c5 hil2
      have k0 := HRWC.out.fr HI6.out 0 (by decide) (v := .int .i64 ((fa F4 i).page : Int)) rfl
      rw [Nat.add_zero] at k0
      have k1 := HRWC.out.fr HI6.out 1 (by decide) (v := .int .u64 ((fa F4 i).lsn : Int)) rfl
      have k2 := HRWC.out.fr HI6.out 2 (by decide) (v := (fa F4 i).u) rfl
      have k3 := HRWC.out.fr HI6.out 3 (by decide) (v := .int .i64 ((fa F4 i).pins : Int)) rfl
      have k4 := HRWC.out.fr HI6.out 4 (by decide) (v := .bool (fa F4 i).dirty) rfl
      have k5 := HRWC.out.fr HI6.out 5 (by decide) (v := .int .u64 ((fa F4 i).first : Int)) rfl
      have k6 := HRWC.out.fr HI6.out 6 (by decide) (v := .bool (fa F4 i).used) rfl
      have f0 := HRWC.out.free (5 + i * 7)
      have f1 := HRWC.out.free (5 + i * 7 + 1)
      have f2 := HRWC.out.free (5 + i * 7 + 2)
      have f3 := HRWC.out.free (5 + i * 7 + 3)
      have f4 := HRWC.out.free (5 + i * 7 + 4)
      have f5 := HRWC.out.free (5 + i * 7 + 5)
      have f6 := HRWC.out.free (5 + i * 7 + 6)
      have p0 := blk_cell HPRC.out 0 (v := .int .u64 (y.1 : Int)) rfl
      have p1 := blk_cell HPRC.out 1 (v := .slice pu y.2.length cu) rfl
      have hrow5 := HRWC.out.set7 HI6.out ⟨m, y.1, .slice pu y.2.length cu, 0, false, 0, false⟩
      obtain ⟨W5, hW5⟩ : ∃ W5, W5 = (((((((w3.setCell ⟨P, 5 + i * 7, none⟩ (.int .i64 (m : Int))).setCell ⟨P, 5 + i * 7 + 1, none⟩ (.int .u64 (y.1 : Int))).setCell ⟨P, 5 + i * 7 + 2, none⟩ (.slice pu y.2.length cu)).setCell ⟨P, 5 + i * 7 + 3, none⟩ (.int .i64 0)).setCell ⟨P, 5 + i * 7 + 4, none⟩ (.bool false)).setCell ⟨P, 5 + i * 7 + 5, none⟩ (.int .u64 0)).setCell ⟨P, 5 + i * 7 + 6, none⟩ (.bool false)) := ⟨_, rfl⟩
      have ht5 : Touch (· = P) w3 W5 := by
        rw [hW5]
        exact ((((((Touch.set (S := (· = P)) P _ _ rfl).trans (Touch.set P _ _ rfl)).trans (Touch.set P _ _ rfl)).trans (Touch.set P _ _ rfl)).trans (Touch.set P _ _ rfl)).trans (Touch.set P _ _ rfl)).trans (Touch.set P _ _ rfl)
      have hrow5 : PmRow W5 P B S b N L s.frames hand1 mp (F4.set i ⟨m, y.1, .slice pu y.2.length cu, 0, false, 0, false⟩) := by rw [hW5]; exact hrow5
      have hne : P ≠ mp := HH.out.pm.ne
      obtain ⟨W6, hrun, hmap6, ht6⟩ := (HMPC.out.touch ht5 (fun e => hne e.symm)).put (k := m) (by rw [HLC.out]; exact HM.out) HI6.out
      have hrow6 := hrow5.touch ht6 hne
      have hF46 : F4.length = 64 := HRWC.out.len
      have g6 := hrow6.fr HI6.out 6 (by decide) (v := .bool false) (by rw [fa_set F4 (by rw [hF46]; exact HI6.out), if_pos rfl]; rfl)
      have e6 := hrow6.free (5 + i * 7 + 6)
      have m5 := hrow5.cMap
      have hrow7 := PmRow.again hF46 HI6.out hrow6 6 (by decide) (.bool true) ⟨m, y.1, .slice pu y.2.length cu, 0, false, 0, true⟩ rfl
      have hmap7 : HmAt (W6.setCell ⟨P, 5 + i * 7 + 6, none⟩ (.bool true)) mp ((H.set (fa F1 i).page none).set m (some i)) := hmap6.touch (Touch.set (S := (· = P)) P _ _ rfl) fun e => hne e.symm
      have ht7 : Touch (fun j => j = P ∨ j = mp) w3 (W6.setCell ⟨P, 5 + i * 7 + 6, none⟩ (.bool true)) := ((ht5.mono fun _ _ e => Or.inl e).trans (ht6.mono fun _ _ e => Or.inr e)).trans (Touch.set P _ _ (Or.inl rfl))
      have HR7 := Lib.hid hrow7
      have HM7 := Lib.hid hmap7
      have HT7 := Lib.hid ht7
      clear hrow5 ht5 hne hmap6 ht6 hrow6 hF46 hrow7 hmap7 ht7
      go_upto_region 15 with (fail)
      rw [← hW5]
      clear k0 k1 k2 k3 k4 k5 k6 f0 f1 f2 f3 f4 f5 f6 p0 p1 hW5
      go_wp2_with fail
      go_ret2
      obtain ⟨hcalm, hlf, htg, hgu, hgv, hnone, htm⟩ := HPOK.out
      obtain ⟨hfa4, hX4, hpf4⟩ := HF.out
      have h7 := h7_evict HIN3.out.pm HIL.out HM.out HNH.out
      rw [hpf4] at h7
      have hsz := HSZ2.out
      have hbf := br_final (m := m) (y := y) HIN3.out ((htm.mono fun _ _ e => Or.inr e).trans HT7.out) HIF.out.2.1 HIF.out.1 HM.out HNH.out HY.out (htg.bts HBU.out fun _ g hg e => ?_) (fun g hg => ?_) (fun _ => ?_) HR7.out HM7.out h7
      · obtain ⟨hgood, hmem, hil9, hlog, hpm9, hoff9, hX9, hdk⟩ := hbf
        have hold : (fa F1 i).page ≠ m := fun e => by
          have h1 := HIN2.out.pm.onto i HIL.out
          rw [e, HNH.out] at h1; cases h1
        have hfree := HFREE.out
        refine Or.inl ⟨i, hand1, F4.set i ⟨m, y.1, .slice pu y.2.length cu, 0, false, 0, true⟩, (H.set (fa F1 i).page none).set m (some i), U1, V1, d1, lg1, { Po.cleaned s (fa F1 i).page with held := heldL ((H.set (fa F1 i).page none).set m (some i)) }, Po.upd (Po.cleaned s (fa F1 i).page).disk m y, rfl, hil9, ?_, hmem, ⟨rfl, rfl, rfl, rfl, fun k hk => ?_, fun k => ?_⟩, hfree, hgood, hlog, ?_, fun e => ?_, HIN3.out.hw, HIN3.out.near, hcalm, hlf, HIN3.out.rule, hoff9, ?_, fun j hj => ?_, fun j hj => ?_, fun j hj => ?_, fun hn => hnone (hn _)⟩
        · rw [fa_set F4 (by rw [HRWC.out.len]; exact HI6.out), if_pos rfl]
        · refine Po.upd_ne _ _ fun e => (heldL_mem _ k).1 hk ?_
          rw [h7.oth k (by rw [e]; exact hold), e, HIN2.out.pm.onto i HIL.out, if_pos rfl]
        · show Po.upd s.disk _ _ k = _ ∨ Po.upd s.disk _ _ k = _
          unfold Po.upd
          split
          · next e => exact Or.inr (by rw [e])
          · exact Or.inl rfl
        · rw [Lr.ifP_neg HNM.out.1]
          exact hpm9
        · exact Po.upd_same _ _ _ (by rw [e]; exact hdk)
        · refine ((HT2.out.trans (htg.mono fun j _ e => ?_)).trans (htm.mono fun j _ e => Or.inr (Or.inr e))).trans (HT7.out.mono fun j _ e => Or.inr e)
          rcases e with e | e
          · exact Or.inl e
          · exact Or.inr (Or.inl e)
        · rcases hgu j hj with h1 | h1
          · exact Or.inl h1
          · exact Or.inr (Nat.le_trans hsz h1)
        · rcases hgv j hj with h1 | h1
          · exact Or.inl h1
          · exact Or.inr (Nat.le_trans hsz h1)
        · rcases hX9 j hj with h1 | h1
          · exact Or.inl (by rw [← hX4]; exact h1)
          · exact Or.inr (Or.inr (HFU.out j h1))
      · obtain ⟨h1, h2, h3⟩ := HFB.out g (HFU.out g hg)
        rcases e with e | e
        · exact h1 e
        · exact h2 e
      · obtain ⟨h1, h2, h3⟩ := HFB.out g (HFU.out g hg)
        have h4 := HUL.out g hg
        refine ⟨fun e => ?_, h2, h3⟩
        rcases e with e | e
        · rcases hgu g e with h5 | h5
          · exact h1 (Or.inl h5)
          · omega
        · rcases hgv g e with h5 | h5
          · exact h1 (Or.inr h5)
          · omega
      · rw [hfa4]
        exact ⟨(HSM.out.pins i).trans (HIF.out.2.2 HIL.out), rfl⟩
    case neg =>
      have hil2 : ¬ (i : Int) < (s.held.length : Int) := by omega
      have HIL : Hid (¬ i < s.held.length) := hil
      have HPRC := HPR
      have HRWC := Lib.hid HIN2.out.pm.row
      have HMPC := Lib.hid HIN2.out.pm.map
      have HLC : Hid (H.length = N) := HH.out.pm.hlen
      clear hil
      have k0 := HRWC.out.fr HI6.out 0 (by decide) (v := .int .i64 ((fa F1 i).page : Int)) rfl
      rw [Nat.add_zero] at k0
      have k1 := HRWC.out.fr HI6.out 1 (by decide) (v := .int .u64 ((fa F1 i).lsn : Int)) rfl
      have k2 := HRWC.out.fr HI6.out 2 (by decide) (v := (fa F1 i).u) rfl
      have k3 := HRWC.out.fr HI6.out 3 (by decide) (v := .int .i64 ((fa F1 i).pins : Int)) rfl
      have k4 := HRWC.out.fr HI6.out 4 (by decide) (v := .bool (fa F1 i).dirty) rfl
      have k5 := HRWC.out.fr HI6.out 5 (by decide) (v := .int .u64 ((fa F1 i).first : Int)) rfl
      have k6 := HRWC.out.fr HI6.out 6 (by decide) (v := .bool (fa F1 i).used) rfl
      have f0 := HRWC.out.free (5 + i * 7)
      have f1 := HRWC.out.free (5 + i * 7 + 1)
      have f2 := HRWC.out.free (5 + i * 7 + 2)
      have f3 := HRWC.out.free (5 + i * 7 + 3)
      have f4 := HRWC.out.free (5 + i * 7 + 4)
      have f5 := HRWC.out.free (5 + i * 7 + 5)
      have f6 := HRWC.out.free (5 + i * 7 + 6)
      have p0 := blk_cell HPRC.out 0 (v := .int .u64 (y.1 : Int)) rfl
      have p1 := blk_cell HPRC.out 1 (v := .slice pu y.2.length cu) rfl
      have hrow5 := HRWC.out.set7 HI6.out ⟨m, y.1, .slice pu y.2.length cu, 0, false, 0, false⟩
      obtain ⟨W5, hW5⟩ : ∃ W5, W5 = (((((((W2.setCell ⟨P, 5 + i * 7, none⟩ (.int .i64 (m : Int))).setCell ⟨P, 5 + i * 7 + 1, none⟩ (.int .u64 (y.1 : Int))).setCell ⟨P, 5 + i * 7 + 2, none⟩ (.slice pu y.2.length cu)).setCell ⟨P, 5 + i * 7 + 3, none⟩ (.int .i64 0)).setCell ⟨P, 5 + i * 7 + 4, none⟩ (.bool false)).setCell ⟨P, 5 + i * 7 + 5, none⟩ (.int .u64 0)).setCell ⟨P, 5 + i * 7 + 6, none⟩ (.bool false)) := ⟨_, rfl⟩
      have ht5 : Touch (· = P) W2 W5 := by
        rw [hW5]
        exact ((((((Touch.set (S := (· = P)) P _ _ rfl).trans (Touch.set P _ _ rfl)).trans (Touch.set P _ _ rfl)).trans (Touch.set P _ _ rfl)).trans (Touch.set P _ _ rfl)).trans (Touch.set P _ _ rfl)).trans (Touch.set P _ _ rfl)
      have hrow5 : PmRow W5 P B S b N L s.frames hand1 mp (F1.set i ⟨m, y.1, .slice pu y.2.length cu, 0, false, 0, false⟩) := by rw [hW5]; exact hrow5
      have hne : P ≠ mp := HH.out.pm.ne
      obtain ⟨W6, hrun, hmap6, ht6⟩ := (HMPC.out.touch ht5 (fun e => hne e.symm)).put (k := m) (by rw [HLC.out]; exact HM.out) HI6.out
      have hrow6 := hrow5.touch ht6 hne
      have hF46 : F1.length = 64 := HRWC.out.len
      have g6 := hrow6.fr HI6.out 6 (by decide) (v := .bool false) (by rw [fa_set F1 (by rw [hF46]; exact HI6.out), if_pos rfl]; rfl)
      have e6 := hrow6.free (5 + i * 7 + 6)
      have m5 := hrow5.cMap
      have hrow7 := PmRow.again hF46 HI6.out hrow6 6 (by decide) (.bool true) ⟨m, y.1, .slice pu y.2.length cu, 0, false, 0, true⟩ rfl
      have hmap7 : HmAt (W6.setCell ⟨P, 5 + i * 7 + 6, none⟩ (.bool true)) mp (H.set m (some i)) := hmap6.touch (Touch.set (S := (· = P)) P _ _ rfl) fun e => hne e.symm
      have ht7 : Touch (fun j => j = P ∨ j = mp) W2 (W6.setCell ⟨P, 5 + i * 7 + 6, none⟩ (.bool true)) := ((ht5.mono fun _ _ e => Or.inl e).trans (ht6.mono fun _ _ e => Or.inr e)).trans (Touch.set P _ _ (Or.inl rfl))
      have HR7 := Lib.hid hrow7
      have HM7 := Lib.hid hmap7
      have HT7 := Lib.hid ht7
      clear hrow5 ht5 hne hmap6 ht6 hrow6 hF46 hrow7 hmap7 ht7
      go_upto_region 15 with (fail)
      rw [← hW5]
      clear k0 k1 k2 k3 k4 k5 k6 f0 f1 f2 f3 f4 f5 f6 p0 p1 hW5
      go_wp2_with fail
      go_ret2
      have hie : i = s.held.length := by have := HIF.out.2.1; have := HIL.out; omega
      have h7 := h7_free HIN2.out.pm hie HM.out HNH.out
      have hbf := br_final (m := m) (y := y) HIN2.out HT7.out HIF.out.2.1 HIF.out.1 HM.out HNH.out HY.out HBU.out (fun g hg => HFB.out g (HFU.out g hg)) (fun h => absurd h HIL.out) HR7.out HM7.out h7
      obtain ⟨hgood, hmem, hil9, hlog, hpm9, hoff9, hX9, hdk⟩ := hbf
      refine Or.inl ⟨i, hand1, F1.set i ⟨m, y.1, .slice pu y.2.length cu, 0, false, 0, true⟩, H.set m (some i), U, V, d, lg, { s with held := heldL (H.set m (some i)) }, Po.upd s.disk m y, rfl, hil9, ?_, hmem, ⟨rfl, rfl, rfl, rfl, fun k hk => rfl, fun k => Or.inl rfl⟩, Or.inr (fun hf => by have := hf.1; have := HIF.out.1; omega), hgood, hlog, ?_, fun e => ?_, HIN2.out.hw, HIN2.out.near, id, Or.inl rfl, HIN2.out.rule, hoff9, ?_, fun j hj => Or.inl hj, fun j hj => Or.inl hj, fun j hj => ?_, fun _ => ⟨rfl, rfl⟩⟩
      · rw [fa_set F1 (by rw [HRWC.out.len]; exact HI6.out), if_pos rfl]
      · rw [Lr.ifP_neg HNM.out.1]
        exact hpm9
      · exact Po.upd_same _ _ _ (by rw [e]; exact hdk)
      · exact HT2.out.trans (HT7.out.mono fun j _ e => Or.inr e)
      · rcases hX9 j hj with h1 | h1
        · exact Or.inl (by rw [← HX1.out]; exact h1)
        · exact Or.inr (Or.inr (HFU.out j h1))
end Go.Proofs.YtbpodmallknhfaaGreat
namespace Go.Proofs.YtbpodmallknhfaaGreat
open Go.RowKit
theorem Rg.read_home {n S b N m : Nat} {d : Dk.Dev} {f : Nat → Po.Pg} (hN : Wl.Near n d) (ho : d.off = false) (hL : Rg.Lies n S b N) (h : Rg.HwN S b N d f) (hm : m < N) : Pg.read d (b : Int) (m : Int) = (f m, 0) := by
  have hb := hL.base
  obtain ⟨l1, l2⟩ := lies_at hb hm
  have hq : ∀ j, j < 4 → Rg.QS d (b + 4 * m + j) := fun j hj x hx => by
    have := h.idle _ (Rg.home_has (S := S) (b := b) (N := N) hm hj)
    rw [this] at hx; cases hx
  have hrd : ∀ j, j < 4 → Dk.read d ((b + 4 * m + j : Nat) : Int) = (Rg.lv d (b + 4 * m + j), 0) := fun j hj => by
    rw [Rg.read_on hN ho (by omega), Rg.sv_quiet (hq j hj)]
  have h0 := hrd 0 (by decide)
  have h1 := hrd 1 (by decide)
  have h2 := hrd 2 (by decide)
  have h3 := hrd 3 (by decide)
  have hr : Dk.rds d (b + 4 * m) 4 = (Rg.hm d (b + 4 * m), 0) := by
    unfold Dk.rds Dk.rds Dk.rds Dk.rds Dk.rds
    rw [Nat.add_zero] at h0
    rw [show b + 4 * m + 1 + 1 = b + 4 * m + 2 by omega, show b + 4 * m + 2 + 1 = b + 4 * m + 3 by omega, h0, h1, h2, h3]
    simp [Rg.hm]
  have hh := h.home m hm
  unfold Pg.read
  rw [hN.sz, if_neg (by rw [l1]; decide), l2, hr, if_neg (fun c => c rfl)]
  dsimp only
  rw [hh.1, hh.2]
theorem Wl.calm_near {n : Nat} {d : Dk.Dev} (h : Wl.Calm n d) (ho : Dk.Ok d) : Wl.Near n d := ⟨ho, h.sz, h.most⟩
theorem read_hands {U V : Nat → Prop} {w w2 : World} {B L P S b N hand2 mp n : Nat} {F2 : List Fr} {H : List (Option Nat)} {d : Dk.Dev} {lg : Wl.S} {s : Po.S} {m : Nat} (hC : Wl.Calm n d) (hm : m < N) (hnm : m ∉ s.held) (h : PmIn U V w2 B L P S b N hand2 mp F2 H n d lg s) (ht : Touch (· = P) w w2) :
    Calls Tryz.prog 49 #[.pointer (some ⟨P, 0, none⟩), .int .i64 (m : Int)] w2 fun e w' => ∃ p c, e = .returned (.tuple #[PgV (s.now m).1 (.slice p (s.now m).2.length c), .int .i64 0]) ∧ Bts w' (.slice p (s.now m).2.length c) (s.now m).2 ∧ (∀ g, (Value.slice p (s.now m).2.length c).ownBlock = some g → w.heap.size ≤ g) ∧ Below w2.heap.size w2 w' := by
  obtain ⟨m1, m2, pl, wa, hlm, hV, hPD, -⟩ := h.log
  have h16 := h.pm.n16
  have hr := pmRead_any h.pm.row hPD (m : Int) (by omega)
  rw [Rg.read_home h.near hC.off h.lies h.hw hm, h.pm.good.clean m (h.pm.good.first_of hnm)] at hr
  refine hr.mono ?_
  rintro e w' ⟨u, rfl, hO, hb⟩
  obtain ⟨p, c, hu, -⟩ := hO.bts.form
  subst hu
  exact ⟨p, c, rfl, hO.bts, fun g hg => Nat.le_trans ht.size (Nat.le_of_not_lt fun hlt => own_nota hO hg hlt), hb⟩
theorem Po.upd2 {α : Type} (f : Nat → α) (k : Nat) : Po.upd f k (f k) = f := Po.upd_same f k _ rfl
theorem PmIs.frame {w w' : World} {B L P S b N hand mp : Nat} {F : List Fr} {H : List (Option Nat)} {s : Po.S} (h : PmIs w B L P S b N hand mp F H s) {T : Nat → Prop} (ht : Touch T w w') (hT : ∀ j, PmX P mp F j → j ≠ P → ¬ T j) {i : Nat} (hi : i < s.held.length) (f : Fr) (hp : f.page = (fa F i).page) (hb : ∀ g, f.u.ownBlock = some g → g ≠ P ∧ g ≠ mp)
    (s' : Po.S) (hh : s'.held = s.held) (hfr : s'.frames = s.frames) (ha : s'.ar = s.ar) (hg : Po.Good s') (hf : FrIs w' s' f) (ho : ∀ k, k ≠ f.page → s'.now k = s.now k ∧ s'.pins k = s.pins k ∧ s'.first k = s.first k) (hrow : PmRow w' P B S b N L s.frames hand mp (F.set i f)) : PmIs w' B L P S b N hand mp (F.set i f) H s' := by
  have hiF : i < F.length := by rw [h.row.len]; have := h.bounds; have := h.cnt; omega
  have hfa := fa_set F hiF f
  refine ⟨by rw [hfr]; exact hrow, h.map.touch ht (hT mp (Or.inr (Or.inl rfl)) (Ne.symm h.ne)), h.hlen, by rw [ha]; exact h.ar, by rw [hfr]; exact h.cnt, by rw [hfr]; exact h.hand, by rw [hh]; exact h.held, fun k j hk => ?_, fun j hj => ?_, fun j hj => ?_, fun j hj => ?_, hg, h.n16, h.ne, fun j g hg => ?_⟩
  · obtain ⟨h1, h2⟩ := h.into k j hk
    rw [hh, hfa]
    refine ⟨h1, ?_⟩
    split
    · next e => rw [hp, ← e]; exact h2
    · exact h2
  · rw [hh] at hj
    rw [hfa]
    split
    · next e => rw [hp, ← e]; exact h.onto j hj
    · exact h.onto j hj
  · rw [hh] at hj
    rw [hfa]
    split
    · exact hf
    · next e =>
      have h1 := (h.fr j hj).touch ht fun g hg hT' => hT g (Or.inr (Or.inr ⟨j, hg⟩)) (h.bod j g hg).1 hT'
      obtain ⟨o1, o2, o3⟩ := ho (fa F j).page fun e2 => e (page_inj h hj hi (by rw [e2, hp]))
      exact ⟨by rw [o1]; exact h1.lsn, by rw [o1]; exact h1.body, by rw [o2]; exact h1.pins, by rw [o3]; exact h1.first, h1.fl⟩
  · rw [hh] at hj
    rw [hfa, if_neg (by omega)]
    exact h.rest j hj
  · rw [hfa] at hg
    split at hg
    · exact hb g hg
    · exact h.bod j g hg
def BiA (U V : Nat → Prop) (B L P S b N mp : Nat) (F : List Fr) (n : Nat) (d : Dk.Dev) (lg : Wl.S) (s : Po.S) (m : Nat) (w : World) (i hand1 : Nat) (F1 : List Fr) (H1 : List (Option Nat)) (U1 V1 : Nat → Prop) (d1 : Dk.Dev) (lg1 : Wl.S) (s1 : Po.S) (w' : World) : Prop :=
  i < s1.held.length ∧ (fa F1 i).page = m ∧ m ∈ s1.held ∧ Po.Moved s s1 ∧ PmIn U1 V1 w' B L P S b N hand1 mp F1 H1 n d1 lg1 s1 ∧ (Wl.Calm n d → Wl.Calm n d1) ∧ Po.Lf lg lg1 ∧ Touch (fun j => Both U V j ∨ j = P ∨ j = mp) w w' ∧ Grew U U1 w ∧ Grew V V1 w ∧ Grew (PmX P mp F) (PmX P mp F1) w ∧ ((∀ k, s.first k = none) → d1 = d ∧ lg1 = lg)
theorem br_in {U V : Nat → Prop} {w : World} {B L P S b N hand mp n : Nat} {F : List Fr} {H : List (Option Nat)} {d : Dk.Dev} {lg : Wl.S} {s : Po.S} {m : Nat} (h : PmIn U V w B L P S b N hand mp F H n d lg s) (hC : Wl.Calm n d) (hf : Po.Free s m) {e : Ending} {w' : World} (hA : BrA (fun g => w.heap.size ≤ g) U V B L P S b N mp F H n d lg s m (s.now m) w e w') :
    ∃ i hand1 F1 H1 U1 V1 d1 lg1 s1, e = .returned (.tuple #[.pointer (some ⟨P, 5 + i * 7, none⟩), .int .i64 0]) ∧ BiA U V B L P S b N mp F n d lg s m w i hand1 F1 H1 U1 V1 d1 lg1 s1 w' := by
  rcases hA with ⟨i, hand1, F1, H1, U1, V1, d1, lg1, s1, dk, e1, hi, hpg, hmem, hmv, hfree, hgood, hlog, hpm, hdk, hw, hnear, hcalm, hlf, hrule, hoff, ht, hgu, hgv, hX, hnone⟩ | ⟨hnf, -⟩ | ⟨hnc, -⟩
  · refine ⟨i, hand1, F1, H1, U1, V1, d1, lg1, s1, e1, hi, hpg, hmem, hmv, ⟨hlog, ?_, h.lies, hw, hoff, hrule, ?_, hnear, h.n16⟩, hcalm, hlf, ht, hgu, hgv, fun j hj => ?_, hnone⟩
    · rw [hdk rfl, show Lr.ifP (m ∈ s.held) (s.now m) (s.now m) = s.now m from by by_cases c : m ∈ s.held; exact Lr.ifP_pos c _ _; exact Lr.ifP_neg c _ _, Po.upd2, ← hmv.now] at hpm
      exact hpm
    · intro j hj
      rw [hlf.at_, hlf.count]
      exact h.away j hj
    · rcases hX j hj with h1 | h1 | h1
      · exact Or.inl h1
      · exact Or.inr h1
      · exact Or.inr h1
  · exact absurd hf hnf
  · exact absurd hC hnc
theorem gt_results (tmps : Array Value) (w : World) (g : Nat) (x0 x1 e : Value) (h0 : tmps.getD 4 undef = .pointer (some ⟨g, 0, none⟩)) (h1 : tmps.getD 5 undef = e)
    (r0 : w.heap[g]? = some (.cells #[x0, x1] 59 (0, 0))) :
    (results Tryz.f20 tmps).run Tryz.prog w = .ok (.tuple #[.agg #[x0, x1], e]) w := by
  have hr : Tryz.f20.results = #[.cell 4 59, .tmp 5] := rfl
  have h0' : tmps[4]?.getD undef = .pointer (some ⟨g, 0, none⟩) := by simpa using h0
  have h1' : tmps[5]?.getD undef = e := by simpa using h1
  have l0 := run_loadVar_row (P := Tryz.prog) w g 59 _ _ _ _ r0 Tryz.underlying59 rfl (by kernel_rfl)
  simp [results, hr, h0', h1', asAddr, l0]
def GtA (U V : Nat → Prop) (B L P S b N mp : Nat) (F : List Fr) (n : Nat) (d : Dk.Dev) (lg : Wl.S) (s : Po.S) (m : Nat) (w : World) (e : Ending) (w' : World) : Prop :=
  ∃ u i hand1 F1 H1 U1 V1 d1 lg1 s1, e = .returned (.tuple #[PgV (s.now m).1 u, .int .i64 0]) ∧ Own w.heap.size w' u (s.now m).2 ∧ BiA U V B L P S b N mp F n d lg s m w i hand1 F1 H1 U1 V1 d1 lg1 s1 w' ∧ (∀ g, u.ownBlock = some g → ¬ Both U1 V1 g ∧ ¬ PmX P mp F1 g)
set_option maxHeartbeats 3200000 in
set_option maxRecDepth 20000 in
theorem pmGet_any {U V : Nat → Prop} {w : World} {B L P S b N hand mp n : Nat} {F : List Fr} {H : List (Option Nat)} {d : Dk.Dev} {lg : Wl.S} {s : Po.S} {m : Nat} (h : PmIn U V w B L P S b N hand mp F H n d lg s) (hC : Wl.Calm n d) (hs : lg.stop ≤ 1000000000000) (hm : m < N) (hf : Po.Free s m) :
    Calls Tryz.prog 20 #[.pointer (some ⟨P, 0, none⟩), .int .i64 (m : Int)] w fun e w' => GtA U V B L P S b N mp F n d lg s m w e w' := by
  obtain ⟨Q, hQ⟩ : ∃ Q, Q = w.heap.size := ⟨_, rfl⟩
  obtain ⟨W, hW⟩ : ∃ W, W = w.alloc (.cells #[.int .u64 0, .slice none 0 0] 59) := ⟨_, rfl⟩
  have hb : Below w.heap.size w W := by rw [hW]; exact (Below.refl _ _).alloc (Nat.le_refl _) _
  have hr0 : W.heap[Q]? = some (.cells #[.int .u64 0, .slice none 0 0] 59 (0, 0)) := by rw [hW, hQ]; exact heap_alloc_last _ _
  have hsz : W.heap.size = Q + 1 := by rw [hW, hQ]; simp
  have HIN := Lib.hid (h.below hb)
  have hask : ∀ W', W' = W → Calls Tryz.prog 47 #[.pointer (some ⟨P, 0, none⟩), .int .i64 (m : Int)] W' fun e w' => e = .returned (.int .i64 0) ∧ Below W'.heap.size W' w' := fun W' e => by
    have := pmAsked_any (h.below hb).pm.row (m : Int)
    rw [show askE N (m : Int) = 0 from if_pos (by omega)] at this
    rw [e]; exact this
  have HASK := Lib.hid (hask W rfl)
  have HB := Lib.hid hb
  have HR0 := Lib.hid hr0
  have HSZ := Lib.hid hsz
  have HQ := Lib.hid hQ
  have HH := Lib.hid h
  have HC := Lib.hid hC
  have HS := Lib.hid hs
  have HM := Lib.hid hm
  have HF := Lib.hid hf
  have hmf : ∀ (fn : Fn) (first cap : Array Value) (w : World), (Instr.makeFunc fn first cap).run Tryz.prog w = .ok (.func fn first cap) w := fun _ _ _ _ => rfl
  clear h hC hs hm hf hb hr0 hsz hask
  go_enter Tryz.func20, Tryz.ntmps20
  go_upto_region 1 with (fail)
  rw [← hW, ← hQ]
  clear hW hQ
  go_wp2_with fail
  refine HASK.out.mono ?_
  rintro e w1 ⟨rfl, hb1⟩
  have HIN1 := Lib.hid (HIN.out.below hb1)
  have HB1 := Lib.hid hb1
  have hbr := pmBrought_read m (s.now m) HIN1.out HM.out (fun _ => HS.out) (HIN1.out.pm.good.ok m) (fun g (hg : w1.heap.size ≤ g) => ⟨fun e => by have := wl_plt HIN1.out.log g e; omega, fun e => by have := HIN1.out.pm.row.lt; omega, fun e => by have := HIN1.out.pm.map.lt; omega⟩) (fun hnm w2 hand2 F2 h2 ht2 => read_hands HC.out HM.out hnm h2 ht2)
  have HBR := Lib.hid hbr
  clear hb1 hbr HASK
  go_wp2_with fail
  refine HBR.out.mono ?_
  intro e w2 hA
  obtain ⟨i, hand1, F1, H1, U1, V1, d1, lg1, s1, rfl, hbi⟩ := br_in HIN1.out HC.out HF.out hA
  have HBI := Lib.hid hbi
  obtain ⟨hi, hpg, hmem, hmv, hin, hcalm, hlf, ht, hgu, hgv, hgx, hnone⟩ := hbi
  have hfr := hin.pm.fr i hi
  have hi6 : i < 64 := by have := hin.pm.bounds; have := hin.pm.cnt; omega
  have k1 := hin.pm.row.fr hi6 1 (by decide) (v := .int .u64 ((fa F1 i).lsn : Int)) rfl
  have k2 := hin.pm.row.fr hi6 2 (by decide) (v := (fa F1 i).u) rfl
  have hlk := pmLike_any (fa F1 i).lsn (fa F1 i).u _ w2 hfr.body (by rw [(hin.pm.good.ok _).2.1]; decide)
  rw [hpg, hmv.now] at hlk
  have hlsn := hfr.lsn
  rw [hpg, hmv.now] at hlsn
  have HLK := Lib.hid hlk
  have HLSN := Lib.hid hlsn
  have hQU : ¬ (Both U V Q ∨ Q = P ∨ Q = mp) := fun e => by
    have h0 := HQ.out
    rcases e with e | e | e
    · have := wl_plt HH.out.log Q e; omega
    · have := HH.out.pm.row.lt; omega
    · have := HH.out.pm.map.lt; omega
  have hr1 : w1.heap[Q]? = some (.cells #[.int .u64 0, .slice none 0 0] 59 (0, 0)) := (HB1.out.block Q (by have := HSZ.out; omega)).trans HR0.out
  have hr2 := ht.row hr1 hQU
  have HR2 := Lib.hid hr2
  have HIN2 := Lib.hid hin
  obtain ⟨pu, cu, hu, -⟩ := hfr.body.form
  have HU := Lib.hid hu
  clear hA HBR hi hpg hmem hmv hin hcalm hlf ht hgu hgv hgx hnone hfr hi6 hlk hlsn hQU hr1 hr2
  unfold PgV at *
  generalize (fa F1 i).lsn = lsn at *
  generalize (fa F1 i).u = bu at *
  subst hu
  go_wp2_with fail
  refine HLK.out.mono ?_
  rintro e w3 ⟨u, rfl, hO, hb3⟩
  obtain ⟨pw, cw, hw, -⟩ := hO.bts.form
  subst hw
  have hr3 := (hb3.block Q (lt_of_block HR2.out)).trans HR2.out
  have c0 := blk_cell hr3 0 (v := .int .u64 0) rfl
  have c1 := blk_cell hr3 1 (v := .slice none 0 0) rfl
  have f0 := blk_free hr3 0
  have f1 := blk_free hr3 1
  have h4 := blk_set (i := 1) (blk_set (i := 0) hr3 (.int .u64 (lsn : Int))) (.slice pw (s.now m).2.length cw)
  have t4 : Touch (fun j => j = Q) w3 ((w3.setCell ⟨Q, 0, none⟩ (.int .u64 (lsn : Int))).setCell ⟨Q, 1, none⟩ (.slice pw (s.now m).2.length cw)) := (Touch.set (S := fun j => j = Q) Q 0 _ rfl).trans (Touch.set Q 1 _ rfl)
  have HE : Hid (_ ∧ _ ∧ _ ∧ _) := ⟨hO, hb3, h4, t4⟩
  clear hO hb3 hr3 h4 t4 HLK k1 k2
  go_wp2_with fail
  obtain ⟨hO, hb3, h4, t4⟩ := HE.out
  refine bodyPost_ret (gt_results _ _ Q _ _ _ rfl rfl h4) rfl ?_
  obtain ⟨hi, hpg, hmem, hmv, hin, hcalm, hlf, ht, hgu, hgv, hgx, hnone⟩ := HBI.out
  have hq1 : w.heap.size ≤ w1.heap.size := Nat.le_trans HB.out.size HB1.out.size
  have hqs : Q < w1.heap.size := by have := HSZ.out; have := HB1.out.size; omega
  have hQ1 : ¬ Both U1 V1 Q ∧ ¬ PmX P mp F1 Q := by
    have h0 := HQ.out
    refine ⟨fun e => ?_, fun e => ?_⟩
    · rcases e with e | e
      · rcases hgu Q e with h1 | h1
        · have := wl_plt HH.out.log Q (Or.inl h1); omega
        · omega
      · rcases hgv Q e with h1 | h1
        · have := wl_plt HH.out.log Q (Or.inr h1); omega
        · omega
    · rcases hgx Q e with h1 | h1
      · have := HH.out.pm.lt Q h1; omega
      · omega
  have hin4 := (hin.below hb3).keep t4 (fun j hj e => hQ1.1 (e ▸ hj)) fun j hj e => hQ1.2 (e ▸ hj)
  refine ⟨.slice pw (s.now m).2.length cw, i, hand1, F1, H1, U1, V1, d1, lg1, s1, by unfold PgV; rw [HLSN.out]; rfl, ?_, ⟨hi, hpg, hmem, hmv, hin4, hcalm, hlf, ?_, fun j hj => ?_, fun j hj => ?_, fun j hj => ?_, hnone⟩, fun g hg => ?_⟩
  · exact (own_touch hO t4 fun j hj e => by have := ht.size; omega).from (Nat.le_trans hq1 ht.size)
  · exact ((((Touch.of_new HB.out).trans (Touch.of_new HB1.out)).trans ht).trans (Touch.of_new hb3)).grow t4 fun j e => Or.inr (by have := HQ.out; omega)
  · rcases hgu j hj with h1 | h1
    · exact Or.inl h1
    · exact Or.inr (Nat.le_trans hq1 h1)
  · rcases hgv j hj with h1 | h1
    · exact Or.inl h1
    · exact Or.inr (Nat.le_trans hq1 h1)
  · rcases hgx j hj with h1 | h1
    · exact Or.inl h1
    · exact Or.inr (Nat.le_trans hq1 h1)
  · have h1 := own_nota hO hg
    refine ⟨fun e => h1 (wl_plt hin.log g e), fun e => h1 (hin.pm.lt g e)⟩
end Go.Proofs.YtbpodmallknhfaaGreat
namespace Go.Proofs.YtbpodmallknhfaaGreat
open Go.RowKit
theorem PmIn.frame {U V : Nat → Prop} {w w' : World} {B L P S b N hand mp n : Nat} {F : List Fr} {H : List (Option Nat)} {d : Dk.Dev} {lg : Wl.S} {s : Po.S} (h : PmIn U V w B L P S b N hand mp F H n d lg s) (ht : Touch (· = P) w w') {i : Nat} (hi : i < s.held.length) (f : Fr) (hp : f.page = (fa F i).page) (hu : f.u = (fa F i).u)
    (s' : Po.S) (hh : s'.held = s.held) (hfr : s'.frames = s.frames) (ha : s'.ar = s.ar) (hg : Po.Good s') (hf : FrIs w' s' f) (ho : ∀ k, k ≠ f.page → s'.now k = s.now k ∧ s'.pins k = s.pins k ∧ s'.first k = s.first k) (hd : s'.disk = s.disk) (hr : Po.Rule lg s') (hrow : PmRow w' P B S b N L s.frames hand mp (F.set i f)) : PmIn U V w' B L P S b N hand mp (F.set i f) H n d lg s' := by
  have hiF : i < F.length := by rw [h.pm.row.len]; have := h.pm.bounds; have := h.pm.cnt; omega
  refine ⟨wl_pkeep h.log ht fun j hj e => h.off j hj (e ▸ Or.inl rfl), h.pm.frame ht (fun j _ h1 h2 => h1 h2) hi f hp (fun g hg => h.pm.bod i g (by rw [← hu]; exact hg)) s' hh hfr ha hg hf ho hrow, h.lies, by rw [hd]; exact h.hw, ?_, hr, h.away, h.near, h.n16⟩
  rw [pmX_set F hiF f hu]
  exact h.off
def Po.setPins (s : Po.S) (m k : Nat) : Po.S := { s with pins := Po.upd s.pins m k }
theorem Po.good_pins {s : Po.S} (h : Po.Good s) {m : Nat} (hm : m ∈ s.held) (k : Nat) : Po.Good (Po.setPins s m k) := by
  refine ⟨h.sorted, h.few, h.inn, fun j hj => ?_, h.dirty, h.clean, h.ok, h.okd⟩
  have hj : 0 < Po.upd s.pins m k j := hj
  unfold Po.upd at hj
  split at hj
  · next e => rw [e]; exact hm
  · exact h.pinned j hj
theorem PmIn.pins {U V : Nat → Prop} {w w' : World} {B L P S b N hand mp n : Nat} {F : List Fr} {H : List (Option Nat)} {d : Dk.Dev} {lg : Wl.S} {s : Po.S} (h : PmIn U V w B L P S b N hand mp F H n d lg s) (ht : Touch (· = P) w w') {i m : Nat} (hi : i < s.held.length) (hpg : (fa F i).page = m) (hm : m ∈ s.held) (k : Nat)
    (hrow : PmRow w' P B S b N L s.frames hand mp (F.set i { fa F i with pins := k })) : PmIn U V w' B L P S b N hand mp (F.set i { fa F i with pins := k }) H n d lg (Po.setPins s m k) := by
  have hf := (h.pm.fr i hi).touch ht fun g hg e => (h.pm.bod i g hg).1 e
  refine h.frame ht hi { fa F i with pins := k } rfl rfl (Po.setPins s m k) rfl rfl rfl (Po.good_pins h.pm.good hm k) ⟨hf.lsn, hf.body, ?_, hf.first, hf.fl⟩ (fun j hj => ⟨rfl, ?_, rfl⟩) rfl h.rule hrow
  · show Po.upd s.pins m k (fa F i).page = k
    rw [hpg, Po.upd_self]
  · refine Po.upd_ne _ _ ?_
    rw [← hpg]; exact hj
def PnA (U V : Nat → Prop) (B L P S b N mp : Nat) (F : List Fr) (n : Nat) (d : Dk.Dev) (lg : Wl.S) (s : Po.S) (m : Nat) (w : World) (e : Ending) (w' : World) : Prop :=
  ∃ hand1 F1 H1 U1 V1 d1 lg1 s1, e = .returned (.int .i64 0) ∧ PmIn U1 V1 w' B L P S b N hand1 mp F1 H1 n d1 lg1 s1 ∧ (Wl.Calm n d → Wl.Calm n d1) ∧ Po.Lf lg lg1 ∧ Po.Pinned s m s1 ∧ Touch (fun j => Both U V j ∨ j = P ∨ j = mp) w w' ∧ Grew U U1 w ∧ Grew V V1 w ∧ Grew (PmX P mp F) (PmX P mp F1) w
set_option maxHeartbeats 3200000 in
set_option maxRecDepth 20000 in
theorem pmPin_any {U V : Nat → Prop} {w : World} {B L P S b N hand mp n : Nat} {F : List Fr} {H : List (Option Nat)} {d : Dk.Dev} {lg : Wl.S} {s : Po.S} {m : Nat} (h : PmIn U V w B L P S b N hand mp F H n d lg s) (hC : Wl.Calm n d) (hs : lg.stop ≤ 1000000000000) (hm : m < N) (hf : Po.Free s m) (hp : s.pins m ≤ 1000000) :
    Calls Tryz.prog 23 #[.pointer (some ⟨P, 0, none⟩), .int .i64 (m : Int)] w fun e w' => PnA U V B L P S b N mp F n d lg s m w e w' := by
  have hask := pmAsked_any h.pm.row (m : Int)
  rw [show askE N (m : Int) = 0 from if_pos (by omega)] at hask
  have HASK := Lib.hid hask
  have HH := Lib.hid h
  have HC := Lib.hid hC
  have HS := Lib.hid hs
  have HM := Lib.hid hm
  have HF := Lib.hid hf
  have HP := Lib.hid hp
  have hmf : ∀ (fn : Fn) (first cap : Array Value) (w : World), (Instr.makeFunc fn first cap).run Tryz.prog w = .ok (.func fn first cap) w := fun _ _ _ _ => rfl
  clear h hC hs hm hf hask hp
  go_enter Tryz.func23, Tryz.ntmps23
  go_wp2_with fail
  refine HASK.out.mono ?_
  rintro e w1 ⟨rfl, hb1⟩
  have HIN1 := Lib.hid (HH.out.below hb1)
  have HB1 := Lib.hid hb1
  have hbr := pmBrought_read m (s.now m) HIN1.out HM.out (fun _ => HS.out) (HIN1.out.pm.good.ok m) (fun g (hg : w1.heap.size ≤ g) => ⟨fun e => by have := wl_plt HIN1.out.log g e; omega, fun e => by have := HIN1.out.pm.row.lt; omega, fun e => by have := HIN1.out.pm.map.lt; omega⟩) (fun hnm w2 hand2 F2 h2 ht2 => read_hands HC.out HM.out hnm h2 ht2)
  have HBR := Lib.hid hbr
  clear hb1 hbr HASK
  go_wp2_with fail
  refine HBR.out.mono ?_
  intro e w2 hA
  obtain ⟨i, hand1, F1, H1, U1, V1, d1, lg1, s1, rfl, hbi⟩ := br_in HIN1.out HC.out HF.out hA
  have HBI := Lib.hid hbi
  obtain ⟨hi, hpg, hmem, hmv, hin, -⟩ := hbi
  have hfr := hin.pm.fr i hi
  have hi6 : i < 64 := by have := hin.pm.bounds; have := hin.pm.cnt; omega
  have hpn : (fa F1 i).pins = s.pins m := by rw [← hfr.pins, hpg, hmv.pins]
  have k3 := hin.pm.row.fr hi6 3 (by decide) (v := .int .i64 ((fa F1 i).pins : Int)) rfl
  have f3 := hin.pm.row.free (5 + i * 7 + 3)
  have hw := IntWalk.i64_in (((fa F1 i).pins : Int) + 1) (by have := HP.out; omega)
  have hrow := hin.pm.row.set hi6 3 (by decide) (.int .i64 (((fa F1 i).pins + 1 : Nat) : Int)) { fa F1 i with pins := (fa F1 i).pins + 1 } rfl
  have HRW := Lib.hid hrow
  have HPN := Lib.hid hpn
  clear hA HBR hi hpg hmem hmv hin hfr hi6 hpn hrow
  go_wp2_with fail
  go_ret
  obtain ⟨hi, hpg, hmem, hmv, hin, hcalm, hlf, ht, hgu, hgv, hgx, -⟩ := HBI.out
  have hq1 := HB1.out.size
  have hin2 := hin.pins (w' := w2.setCell ⟨P, 5 + i * 7 + 3, none⟩ (.int .i64 (((fa F1 i).pins + 1 : Nat) : Int))) (Touch.set P _ _ rfl) hi hpg hmem ((fa F1 i).pins + 1) HRW.out
  have hX : PmX P mp (F1.set i { fa F1 i with pins := (fa F1 i).pins + 1 }) = PmX P mp F1 := pmX_set F1 (by rw [hin.pm.row.len]; have := hin.pm.bounds; have := hin.pm.cnt; omega) _ rfl
  refine ⟨hand1, F1.set i { fa F1 i with pins := (fa F1 i).pins + 1 }, H1, U1, V1, d1, lg1, Po.setPins s1 m ((fa F1 i).pins + 1), rfl, hin2, hcalm, hlf, ⟨hmv.now, ?_, hmv.frames, hmv.ar, hmv.first, hmv.disk⟩, ((Touch.of_new HB1.out).trans ht).trans (Touch.set P _ _ (Or.inr (Or.inl rfl))), fun j hj => ?_, fun j hj => ?_, fun j hj => ?_⟩
  · show Po.upd s1.pins m _ = _
    rw [hmv.pins, HPN.out]
  · rcases hgu j hj with h1 | h1
    · exact Or.inl h1
    · exact Or.inr (Nat.le_trans hq1 h1)
  · rcases hgv j hj with h1 | h1
    · exact Or.inl h1
    · exact Or.inr (Nat.le_trans hq1 h1)
  · rw [hX] at hj
    rcases hgx j hj with h1 | h1
    · exact Or.inl h1
    · exact Or.inr (Nat.le_trans hq1 h1)
theorem pmPins_any {U V : Nat → Prop} {w : World} {B L P S b N hand mp n : Nat} {F : List Fr} {H : List (Option Nat)} {d : Dk.Dev} {lg : Wl.S} {s : Po.S} {m : Nat} (h : PmIn U V w B L P S b N hand mp F H n d lg s) (hm : m < N) :
    Calls Tryz.prog 12 #[.pointer (some ⟨P, 0, none⟩), .int .i64 (m : Int)] w fun e w' => e = .returned (.int .i64 (s.pins m : Int)) ∧ w' = w := by
  have h16 := h.pm.n16
  have HN := Lib.hid (pmNone_any h.pm.row)
  have hfr := pmFrame_any h.pm.row h.pm.map (m : Int) (by omega)
  rw [hz_nat] at hfr
  cases hm0 : H.getD m none with
  | none =>
    rw [hm0] at hfr
    have HFR := Lib.hid hfr
    have HPN := Lib.hid (not_held h.pm hm0).2.1
    clear h hm hfr hm0
    go_enter Tryz.func12, Tryz.ntmps12
    go_wp2_with fail
    refine HN.out.mono ?_
    rintro e w1 ⟨rfl, rfl⟩
    clear HN
    go_wp2_with fail
    refine HFR.out.mono ?_
    rintro e w2 ⟨rfl, rfl⟩
    unfold frP
    dsimp only
    clear HFR
    go_wp2_with fail
    go_ret
    exact ⟨by rw [HPN.out]; rfl, rfl⟩
  | some i =>
    obtain ⟨hi, hpg⟩ := h.pm.into m i hm0
    have hi6 : i < 64 := by have := h.pm.bounds; have := h.pm.cnt; omega
    have hf := h.pm.fr i hi
    have HPN : Hid (s.pins m = (fa F i).pins) := by show _ = _; rw [← hf.pins, hpg]
    have k3 := h.pm.row.fr hi6 3 (by decide) (v := .int .i64 ((fa F i).pins : Int)) rfl
    rw [hm0] at hfr
    have HFR := Lib.hid hfr
    clear h hm hfr hm0 hi hpg hi6 hf
    go_enter Tryz.func12, Tryz.ntmps12
    go_wp2_with fail
    refine HN.out.mono ?_
    rintro e w1 ⟨rfl, rfl⟩
    clear HN
    go_wp2_with fail
    refine HFR.out.mono ?_
    rintro e w2 ⟨rfl, rfl⟩
    unfold frP
    dsimp only
    clear HFR
    go_wp2_with fail
    go_ret
    exact ⟨by rw [HPN.out]; rfl, rfl⟩
end Go.Proofs.YtbpodmallknhfaaGreat
namespace Go.Proofs.YtbpodmallknhfaaGreat
open Go.RowKit
set_option maxHeartbeats 1600000 in
theorem pmGet_not {w : World} (p : Option Addr) (m : Int) (k : Nat) (hk : 1 ≤ k) (hask : ∀ W, Below w.heap.size w W → Calls Tryz.prog 47 #[.pointer p, .int .i64 m] W fun e w' => e = .returned (.int .i64 (k : Int)) ∧ Below W.heap.size W w') :
    Calls Tryz.prog 20 #[.pointer p, .int .i64 m] w fun e w' => e = .returned (.tuple #[PgV 0 (.slice none 0 0), .int .i64 (k : Int)]) ∧ Below w.heap.size w w' := by
  obtain ⟨Q, hQ⟩ : ∃ Q, Q = w.heap.size := ⟨_, rfl⟩
  obtain ⟨W, hW⟩ : ∃ W, W = w.alloc (.cells #[.int .u64 0, .slice none 0 0] 59) := ⟨_, rfl⟩
  have hb : Below w.heap.size w W := by rw [hW]; exact (Below.refl _ _).alloc (Nat.le_refl _) _
  have hr0 : W.heap[Q]? = some (.cells #[.int .u64 0, .slice none 0 0] 59 (0, 0)) := by rw [hW, hQ]; exact heap_alloc_last _ _
  have HASK := Lib.hid (hask W hb)
  have HB := Lib.hid hb
  have HR0 := Lib.hid hr0
  have HQ := Lib.hid hQ
  have h1 : ¬ (k : Int) = 0 := by omega
  have h2 : ((k : Int) != 0) = true := by simp; omega
  clear hask hb hr0 hk
  go_enter Tryz.func20, Tryz.ntmps20
  go_upto_region 1 with (fail)
  rw [← hW, ← hQ]
  clear hW hQ
  go_wp2_with fail
  refine HASK.out.mono ?_
  rintro e w1 ⟨rfl, hb1⟩
  have hr1 := (hb1.block Q (lt_of_block HR0.out)).trans HR0.out
  have c0 := blk_cell hr1 0 (v := .int .u64 0) rfl
  have c1 := blk_cell hr1 1 (v := .slice none 0 0) rfl
  have f0 := blk_free hr1 0
  have f1 := blk_free hr1 1
  have h4 := blk_set (i := 1) (blk_set (i := 0) hr1 (.int .u64 0)) (.slice none 0 0)
  have t4 : Touch (fun j => j = Q) w1 ((w1.setCell ⟨Q, 0, none⟩ (.int .u64 0)).setCell ⟨Q, 1, none⟩ (.slice none 0 0)) := (Touch.set (S := fun j => j = Q) Q 0 _ rfl).trans (Touch.set Q 1 _ rfl)
  have HE : Hid (_ ∧ _ ∧ _) := ⟨hb1, h4, t4⟩
  clear hb1 hr1 h4 t4 HASK
  go_wp2_with fail
  obtain ⟨hb1, h4, t4⟩ := HE.out
  refine bodyPost_ret (gt_results _ _ Q _ _ _ rfl rfl h4) rfl ?_
  exact ⟨rfl, (HB.out.trans (hb1.mono HB.out.size)).trans (t4.one (by have := HQ.out; omega) (Nat.lt_of_lt_of_le (lt_of_block HR0.out) hb1.size))⟩
theorem pmPin_not {w : World} (p : Option Addr) (m : Int) (k : Nat) (hk : 1 ≤ k) (hask : ∀ W, Below w.heap.size w W → Calls Tryz.prog 47 #[.pointer p, .int .i64 m] W fun e w' => e = .returned (.int .i64 (k : Int)) ∧ Below W.heap.size W w') :
    Calls Tryz.prog 23 #[.pointer p, .int .i64 m] w fun e w' => e = .returned (.int .i64 (k : Int)) ∧ Below w.heap.size w w' := by
  have HASK := Lib.hid (hask w (Below.refl _ _))
  have h1 : ¬ (k : Int) = 0 := by omega
  have h2 : ((k : Int) != 0) = true := by simp; omega
  clear hask hk
  go_enter Tryz.func23, Tryz.ntmps23
  go_wp2_with fail
  refine HASK.out.mono ?_
  rintro e w1 ⟨rfl, hb1⟩
  have HE := Lib.hid hb1
  clear hb1 HASK
  go_wp2_with fail
  go_ret
  exact ⟨rfl, HE.out⟩
theorem pmFlush_not {w : World} (p : Option Addr) (m : Int) (k : Nat) (hk : 1 ≤ k) (hask : ∀ W, Below w.heap.size w W → Calls Tryz.prog 47 #[.pointer p, .int .i64 m] W fun e w' => e = .returned (.int .i64 (k : Int)) ∧ Below W.heap.size W w') :
    Calls Tryz.prog 25 #[.pointer p, .int .i64 m] w fun e w' => e = .returned (.int .i64 (k : Int)) ∧ Below w.heap.size w w' := by
  have HASK := Lib.hid (hask w (Below.refl _ _))
  have h1 : ¬ (k : Int) = 0 := by omega
  have h2 : ((k : Int) != 0) = true := by simp; omega
  clear hask hk
  go_enter Tryz.func25, Tryz.ntmps25
  go_wp2_with fail
  refine HASK.out.mono ?_
  rintro e w1 ⟨rfl, hb1⟩
  have HE := Lib.hid hb1
  clear hb1 HASK
  go_wp2_with fail
  go_ret
  exact ⟨rfl, HE.out⟩
theorem ask_nil {w : World} (m : Int) : ∀ W, Below w.heap.size w W → Calls Tryz.prog 47 #[.pointer none, .int .i64 m] W fun e w' => e = .returned (.int .i64 ((1 : Nat) : Int)) ∧ Below W.heap.size W w' := fun W _ => (pmAsked_nil m W).mono fun _ _ ⟨h1, h2⟩ => ⟨h1, h2 ▸ Below.refl _ _⟩
theorem pmUnpin_nil (m : Int) (w : World) : Calls Tryz.prog 24 #[.pointer none, .int .i64 m] w fun e w' => e = .returned (.int .i64 1) ∧ Below w.heap.size w w' := by
  have HN := Lib.hid (pmNone_nil w)
  go_enter Tryz.func24, Tryz.ntmps24
  go_wp2_with fail
  refine HN.out.mono ?_
  rintro e w1 ⟨rfl, rfl⟩
  clear HN
  go_wp2_with fail
  go_ret
  exact ⟨rfl, Below.refl _ _⟩
theorem pmPins_nil (m : Int) (w : World) : Calls Tryz.prog 12 #[.pointer none, .int .i64 m] w fun e w' => e = .returned (.int .i64 0) ∧ Below w.heap.size w w' := by
  have HN := Lib.hid (pmNone_nil w)
  go_enter Tryz.func12, Tryz.ntmps12
  go_wp2_with fail
  refine HN.out.mono ?_
  rintro e w1 ⟨rfl, rfl⟩
  clear HN
  go_wp2_with fail
  go_ret
  exact ⟨rfl, Below.refl _ _⟩
theorem pmHeld_nil (w : World) : Calls Tryz.prog 11 #[.pointer none] w fun e w' => e = .returned (.slice none 0 0) ∧ Below w.heap.size w w' := by
  have HN := Lib.hid (pmNone_nil w)
  go_enter Tryz.func11, Tryz.ntmps11
  go_wp2_with fail
  refine HN.out.mono ?_
  rintro e w1 ⟨rfl, rfl⟩
  clear HN
  go_wp2_with fail
  go_ret
  exact ⟨rfl, Below.refl _ _⟩
theorem Grew.under {U U1 : Nat → Prop} {w w1 : World} (h : Grew U U1 w1) (hs : w.heap.size ≤ w1.heap.size) : Grew U U1 w := fun j hj => by
  rcases h j hj with h1 | h1
  · exact Or.inl h1
  · exact Or.inr (Nat.le_trans hs h1)
end Go.Proofs.YtbpodmallknhfaaGreat
namespace Go.Proofs.YtbpodmallknhfaaGreat
open Go.RowKit
theorem fr_results (tmps : Array Value) (w : World) (g : Nat) (x0 x1 e : Value) (h0 : tmps.getD 3 undef = .pointer (some ⟨g, 0, none⟩)) (h1 : tmps.getD 4 undef = e)
    (r0 : w.heap[g]? = some (.cells #[x0, x1] 59 (0, 0))) :
    (results Tryz.f51 tmps).run Tryz.prog w = .ok (.tuple #[.agg #[x0, x1], e]) w := by
  have hr : Tryz.f51.results = #[.cell 3 59, .tmp 4] := rfl
  have h0' : tmps[3]?.getD undef = .pointer (some ⟨g, 0, none⟩) := by simpa using h0
  have h1' : tmps[4]?.getD undef = e := by simpa using h1
  have l0 := run_loadVar_row (P := Tryz.prog) w g 59 _ _ _ _ r0 Tryz.underlying59 rfl (by kernel_rfl)
  simp [results, hr, h0', h1', asAddr, l0]
theorem pmFresh_any {w : World} (R k : Nat) (p : Option Addr) (l c : Nat) (m : Int) (h : w.heap[R]? = some (.cells #[.int .u64 (k : Int), .slice p l c] 59 (0, 0))) :
    Calls Tryz.prog 51 #[.int .i64 m, .pointer (some ⟨R, 0, none⟩)] w fun e w' => e = .returned (.tuple #[PgV k (.slice p l c), .int .i64 0]) ∧ Below w.heap.size w w' := by
  obtain ⟨Q, hQ⟩ : ∃ Q, Q = w.heap.size := ⟨_, rfl⟩
  obtain ⟨W, hW⟩ : ∃ W, W = w.alloc (.cells #[.int .u64 0, .slice none 0 0] 59) := ⟨_, rfl⟩
  have hb : Below w.heap.size w W := by rw [hW]; exact (Below.refl _ _).alloc (Nat.le_refl _) _
  have hr0 : W.heap[Q]? = some (.cells #[.int .u64 0, .slice none 0 0] 59 (0, 0)) := by rw [hW, hQ]; exact heap_alloc_last _ _
  have hr1 := (hb.block R (lt_of_block h)).trans h
  have p0 := blk_cell hr1 0 (v := .int .u64 (k : Int)) rfl
  have p1 := blk_cell hr1 1 (v := .slice p l c) rfl
  have c0 := blk_cell hr0 0 (v := .int .u64 0) rfl
  have c1 := blk_cell hr0 1 (v := .slice none 0 0) rfl
  have f0 := blk_free hr0 0
  have f1 := blk_free hr0 1
  have h4 := blk_set (i := 1) (blk_set (i := 0) hr0 (.int .u64 (k : Int))) (.slice p l c)
  have t4 : Touch (fun j => j = Q) W ((W.setCell ⟨Q, 0, none⟩ (.int .u64 (k : Int))).setCell ⟨Q, 1, none⟩ (.slice p l c)) := (Touch.set (S := fun j => j = Q) Q 0 _ rfl).trans (Touch.set Q 1 _ rfl)
  have HE : Hid (_ ∧ _ ∧ _ ∧ _ ∧ _) := ⟨hb, h4, t4, hQ, lt_of_block hr0⟩
  clear hb h4 t4 hr0 hr1 h
  go_enter Tryz.func51, Tryz.ntmps51
  go_upto_region 1 with (fail)
  rw [← hW, ← hQ]
  clear hW hQ
  go_wp2_with fail
  obtain ⟨hb, h4, t4, hQ, hl⟩ := HE.out
  refine bodyPost_ret (fr_results _ _ Q _ _ _ rfl rfl h4) rfl ?_
  exact ⟨rfl, hb.trans (t4.one (by omega) hl)⟩
def Po.turned (s : Po.S) (m : Nat) (x : Po.Pg) (f : Nat) : Po.S := { s with now := Po.upd s.now m x, first := Po.upd s.first m (some f) }
theorem Po.good_turned {s : Po.S} (h : Po.Good s) {m : Nat} (hm : m ∈ s.held) {x : Po.Pg} (hx : Po.PgOk x) (f : Nat) : Po.Good (Po.turned s m x f) := by
  refine ⟨h.sorted, h.few, h.inn, h.pinned, fun j hj => ?_, fun j hj => ?_, fun j => ?_, h.okd⟩
  · have hj : Po.upd s.first m (some f) j ≠ none := hj
    unfold Po.upd at hj
    split at hj
    · next e => rw [e]; exact hm
    · exact h.dirty j hj
  · have hj : Po.upd s.first m (some f) j = none := hj
    show s.disk j = Po.upd s.now m x j
    unfold Po.upd at hj ⊢
    split at hj
    · cases hj
    · next e => rw [if_neg e]; exact h.clean j hj
  · show Po.PgOk (Po.upd s.now m x j)
    unfold Po.upd
    split
    · exact hx
    · exact h.ok j
def PtA (U V : Nat → Prop) (B L P S b N mp : Nat) (F : List Fr) (n : Nat) (d : Dk.Dev) (lg : Wl.S) (s : Po.S) (m : Nat) (x : Po.Pg) (w : World) (e : Ending) (w' : World) : Prop :=
  (∃ hand1 F1 H1 U1 V1 d1 lg1 s1, e = .returned (.int .i64 0) ∧ PmIn U1 V1 w' B L P S b N hand1 mp F1 H1 n d1 lg1 s1 ∧ (Wl.Calm n d → Wl.Calm n d1) ∧ Po.Lf lg lg1 ∧ Po.PutTo s m x s1 ∧ Po.Free s m ∧ Touch (fun j => Both U V j ∨ j = P ∨ j = mp) w w' ∧ Grew U U1 w ∧ Grew V V1 w ∧ Grew (PmX P mp F) (PmX P mp F1) w) ∨
  (¬ Po.Free s m ∧ e = .returned (.int .i64 13) ∧ ∃ hand1 F1 H1, PmIn U V w' B L P S b N hand1 mp F1 H1 n d lg s ∧ PmX P mp F1 = PmX P mp F ∧ Touch (fun j => Both U V j ∨ j = P ∨ j = mp) w w') ∨
  (¬ Wl.Calm n d ∧ e = .returned (.int .i64 6) ∧ ∃ U' d' lg' c, WlPD U' w' B d' ∧ Wl.Near n d' ∧ Touch (fun j => Both U V j ∨ j = P ∨ j = mp) w w' ∧ Grew U U' w ∧ Po.Lf lg lg' ∧ (∀ k x, c k x → (x = s.disk k ∨ x = s.now k) ∧ x.1 < lg'.flushed) ∧ ∀ ps, Wl.Hd (Dk.crash d' ps) lg' ∧ Rg.HpN S b N (Dk.crash d' ps) c)
theorem fr_eta (f : Fr) (h : f.dirty = false) : f = { f with dirty := false, first := f.first } := by
  cases f
  cases h
  rfl
theorem pt_final {U V U1 V1 : Nat → Prop} {w w2 w4 w9 : World} {B L P S b N hand hand1 mp n : Nat} {F F1 : List Fr} {H H1 : List (Option Nat)} {d d1 : Dk.Dev} {lg lg1 : Wl.S} {s s1 : Po.S} {m i : Nat} {x : Po.Pg} {y : Po.Pg} {dk : Nat → Po.Pg} (h : PmIn U V w B L P S b N hand mp F H n d lg s) (hx : Po.PgOk x) (hxl : x.1 < lg.stop) (hm : m < N)
    (hpm : PmIs w4 B L P S b N hand1 mp F1 H1 { s1 with now := Po.upd s.now m y, disk := dk })
    (hi : i < s1.held.length) (hpg : (fa F1 i).page = m) (hmem : m ∈ s1.held) (hmv : Po.Moved s s1) (hgood : Po.Good s1) (hlog : WlPL U1 V1 w4 B L d1 lg1) (hw : Rg.HwN S b N d1 s1.disk) (hnear : Wl.Near n d1) (hlf : Po.Lf lg lg1) (hrule : Po.Rule lg1 s1) (hoff : ∀ j, Both U1 V1 j → ¬ PmX P mp F1 j)
    (hgu : Grew U U1 w2) (hgv : Grew V V1 w2) (hX : ∀ j, PmX P mp F1 j → PmX P mp F j ∨ w2.heap.size ≤ j ∨ w.heap.size ≤ j) (hs2 : w.heap.size ≤ w2.heap.size) {u2 : Value} (hB : Bts w4 u2 x.2) (hu1 : ∀ g, u2.ownBlock = some g → w.heap.size ≤ g ∧ g < w2.heap.size) (ht : Touch (· = P) w4 w9) (f : Fr) (f1 : f.page = (fa F1 i).page) (f2 : f.pins = (fa F1 i).pins) (f3 : f.dirty = true) (f4 : f.first < 18446744073709551616) (f5 : f.lsn = x.1) (f6 : f.u = u2) (f7 : f.first = (s.first m).getD x.1)
    (hrow : PmRow w9 P B S b N L s.frames hand1 mp (F1.set i f)) :
    PmIn U1 V1 w9 B L P S b N hand1 mp (F1.set i f) H1 n d1 lg1 (Po.turned s1 m x f.first) ∧ Po.PutTo s m x (Po.turned s1 m x f.first) ∧ Grew (PmX P mp F) (PmX P mp (F1.set i f)) w := by
  have hi6 : i < 64 := by have h1 := hpm.bounds.1; have h2 := hpm.cnt.2; have h1 : s1.held.length ≤ s1.frames := h1; have h2 : s1.frames ≤ 64 := h2; omega
  have hiF : i < F1.length := by rw [hpm.row.len]; exact hi6
  have hfi := hpm.fr i hi
  have huP : ∀ g, u2.ownBlock = some g → g ≠ P ∧ g ≠ mp := fun g hg => ⟨fun e => by have := h.pm.row.lt; have := (hu1 g hg).1; omega, fun e => by have := h.pm.map.lt; have := (hu1 g hg).1; omega⟩
  have hXf : ∀ j, PmX P mp (F1.set i f) j → PmX P mp F1 j ∨ u2.ownBlock = some j := by
    rintro j (e | e | ⟨k, hk⟩)
    · exact Or.inl (Or.inl e)
    · exact Or.inl (Or.inr (Or.inl e))
    · rw [fa_set F1 hiF] at hk
      split at hk
      · exact Or.inr (by rw [← f6]; exact hk)
      · exact Or.inl (Or.inr (Or.inr ⟨k, hk⟩))
  have hpm9 : PmIs w9 B L P S b N hand1 mp (F1.set i f) H1 (Po.turned s1 m x f.first) := by
    refine hpm.frame ht (fun j _ h1 h2 => h1 h2) hi f f1 (fun g hg => huP g (by rw [← f6]; exact hg)) (Po.turned s1 m x f.first) rfl rfl rfl (Po.good_turned hgood hmem hx f.first) ⟨?_, ?_, ?_, ?_, f4⟩ (fun k hk => ?_) (by show PmRow w9 P B S b N L s1.frames hand1 mp _; rw [hmv.frames]; exact hrow)
    · rw [f1, hpg, f5]
      show x.1 = (Po.upd s1.now m x m).1
      rw [Po.upd_self]
    · rw [f1, hpg, f6]
      show Bts w9 u2 (Po.upd s1.now m x m).2
      rw [Po.upd_self]
      exact ht.bts hB fun _ g hg e => (huP g hg).1 e
    · rw [f1, f2]
      exact hfi.pins
    · rw [f1, hpg, f3, if_pos rfl]
      show Po.upd s1.first m (some f.first) m = _
      rw [Po.upd_self]
    · rw [f1, hpg] at hk
      refine ⟨?_, rfl, Po.upd_ne _ _ hk⟩
      show Po.upd s1.now m x k = Po.upd s.now m y k
      rw [Po.upd_ne _ _ hk, Po.upd_ne _ _ hk, hmv.now]
  refine ⟨⟨wl_pkeep hlog ht fun j hj e => hoff j hj (e ▸ Or.inl rfl), hpm9, h.lies, hw, fun j hj hx9 => ?_, fun k => ⟨(hrule k).1, ?_⟩, fun j hj => ?_, hnear, h.n16⟩, ⟨?_, hmv.pins, hmv.frames, hmv.ar, ⟨hmem, ?_⟩, fun k hk hkh => ?_, hmv.disk⟩, fun j hj => ?_⟩
  · rcases hXf j hx9 with h1 | h1
    · exact hoff j hj h1
    · obtain ⟨a1, a2⟩ := hu1 j h1
      rcases hj with hj | hj
      · rcases hgu j hj with h2 | h2
        · have := wl_plt h.log j (Or.inl h2); omega
        · omega
      · rcases hgv j hj with h2 | h2
        · have := wl_plt h.log j (Or.inr h2); omega
        · omega
  · show (Po.upd s1.now m x k).1 < lg1.stop
    unfold Po.upd
    split
    · rw [hlf.stop]; exact hxl
    · exact (hrule k).2
  · rw [hlf.at_, hlf.count]; exact h.away j hj
  · show Po.upd s1.now m x = _
    rw [hmv.now]
  · show Po.upd s1.first m (some f.first) m = _
    rw [Po.upd_self, f7]
  · show Po.upd s1.first m (some f.first) k = _
    rw [Po.upd_ne _ _ hk]
    exact hmv.first k hkh
  · rcases hXf j hj with h1 | h1
    · rcases hX j h1 with h2 | h2 | h2
      · exact Or.inl h2
      · exact Or.inr (Nat.le_trans hs2 h2)
      · exact Or.inr h2
    · exact Or.inr (hu1 j h1).1
structure DtR (P B S b N L cnt hand mp : Nat) (F : List Fr) (i k Q R : Nat) (qv rv : Array Value) (W : World) (D : Nat → Bool) (w : World) : Prop where
  row : PmRow w P B S b N L cnt hand mp (F.set i { fa F i with dirty := D 6, first := if D 9 then k else (fa F i).first })
  q : w.heap[Q]? = some (.cells qv 59 (0, 0))
  r : w.heap[R]? = some (.cells rv 59 (0, 0))
  touch : Touch (· = P) W w
def DtF (P i k Q : Nat) (j : Nat) (v : Value) (_ : World) : Prop :=
  match j with
  | 0 => v = .pointer (some ⟨P, 5 + i * 7, none⟩)
  | 1 => v = .pointer (some ⟨P, 5 + i * 7, none⟩)
  | 2 => v = .pointer (some ⟨Q, 0, none⟩)
  | 3 => v = .int .u64 (k : Int)
  | 4 => v = .pointer (some ⟨P, 5 + i * 7, none⟩)
  | 5 => v = .pointer (some ⟨P, 5 + i * 7 + 4, none⟩)
  | 7 => v = .pointer (some ⟨P, 5 + i * 7, none⟩)
  | 8 => v = .pointer (some ⟨P, 5 + i * 7 + 5, none⟩)
  | _ => True
section
variable {P B S b N L cnt hand mp : Nat} {F : List Fr} {i k Q R : Nat} {qv rv : Array Value} {W : World} {D : Nat → Bool} {w : World}
theorem DtR.quiet (h : DtR P B S b N L cnt hand mp F i k Q R qv rv W D w) (j : Nat) (h6 : 6 ≠ j) (h9 : 9 ≠ j) : DtR P B S b N L cnt hand mp F i k Q R qv rv W (Ord.wth D j) w :=
  ⟨by rw [pwth_ne D h6, pwth_ne D h9]; exact h.row, h.q, h.r, h.touch⟩
theorem DtR.at6 (h : DtR P B S b N L cnt hand mp F i k Q R qv rv W D w) (hF : F.length = 64) (hi : i < 64) (hQ : Q ≠ P) (hR : R ≠ P) : DtR P B S b N L cnt hand mp F i k Q R qv rv W (Ord.wth D 6) (w.setCell ⟨P, 5 + i * 7 + 4, none⟩ (.bool true)) := by
  have ht : Touch (· = P) w (w.setCell ⟨P, 5 + i * 7 + 4, none⟩ (.bool true)) := Touch.set P _ _ rfl
  refine ⟨?_, ht.row h.q hQ, ht.row h.r hR, h.touch.trans ht⟩
  rw [pwth_ne D (show 9 ≠ 6 by decide), show Ord.wth D 6 6 = true from if_pos rfl]
  exact PmRow.again hF hi h.row 4 (by decide) (.bool true) _ rfl
theorem DtR.at9 (h : DtR P B S b N L cnt hand mp F i k Q R qv rv W D w) (hF : F.length = 64) (hi : i < 64) (hQ : Q ≠ P) (hR : R ≠ P) : DtR P B S b N L cnt hand mp F i k Q R qv rv W (Ord.wth D 9) (w.setCell ⟨P, 5 + i * 7 + 5, none⟩ (.int .u64 (k : Int))) := by
  have ht : Touch (· = P) w (w.setCell ⟨P, 5 + i * 7 + 5, none⟩ (.int .u64 (k : Int))) := Touch.set P _ _ rfl
  refine ⟨?_, ht.row h.q hQ, ht.row h.r hR, h.touch.trans ht⟩
  rw [pwth_ne D (show 6 ≠ 9 by decide), show Ord.wth D 9 9 = true from if_pos rfl]
  exact PmRow.again hF hi h.row 5 (by decide) (.int .u64 (k : Int)) _ rfl
end
set_option maxHeartbeats 6400000 in
set_option maxRecDepth 20000 in
theorem pmPutP_any {U V : Nat → Prop} {w : World} {B L P S b N hand mp n : Nat} {F : List Fr} {H : List (Option Nat)} {d : Dk.Dev} {lg : Wl.S} {s : Po.S} {m : Nat} (h : PmIn U V w B L P S b N hand mp F H n d lg s) (hs : Po.Free s m → lg.stop ≤ 1000000000000) (hm : m < N) (x : Po.Pg) (u : Value) (hx : Po.PgOk x) (hB : Bts w u x.2) (hxl : Po.Free s m → x.1 < lg.stop) :
    Calls Tryz.prog 21 #[.pointer (some ⟨P, 0, none⟩), .int .i64 (m : Int), PgV x.1 u] w fun e w' => PtA U V B L P S b N mp F n d lg s m x w e w' := by
  obtain ⟨p, cap, hu, -, -, -⟩ := hB.form
  obtain ⟨Q, hQ⟩ : ∃ Q, Q = w.heap.size := ⟨_, rfl⟩
  obtain ⟨W, hW⟩ : ∃ W, W = w.alloc (.cells #[.int .u64 (x.1 : Int), u] 59) := ⟨_, rfl⟩
  have hb : Below w.heap.size w W := by rw [hW]; exact (Below.refl _ _).alloc (Nat.le_refl _) _
  have hr0 : W.heap[Q]? = some (.cells #[.int .u64 (x.1 : Int), u] 59 (0, 0)) := by rw [hW, hQ]; exact heap_alloc_last _ _
  have hask := pmAsked_any (h.below hb).pm.row (m : Int)
  rw [show askE N (m : Int) = 0 from if_pos (by omega)] at hask
  have HASK := Lib.hid hask
  have HIN := Lib.hid (h.below hb)
  have HBX := Lib.hid (hB.below hb)
  have HB := Lib.hid hb
  have HR0 := Lib.hid hr0
  have HQ := Lib.hid hQ
  have HH := Lib.hid h
  have HS := Lib.hid hs
  have HM := Lib.hid hm
  have HX := Lib.hid hx
  have HXL := Lib.hid hxl
  have hxl5 := hx.2.1
  have hmf : ∀ (fn : Fn) (first cap : Array Value) (w : World), (Instr.makeFunc fn first cap).run Tryz.prog w = .ok (.func fn first cap) w := fun _ _ _ _ => rfl
  clear h hs hm hx hB hxl hb hr0 hask
  subst hu
  unfold PgV
  rw [hxl5] at HR0 HBX hW ⊢
  go_enter Tryz.func21, Tryz.ntmps21
  go_upto_region 1 with (fail)
  rw [← hW, ← hQ]
  clear hW hQ hxl5
  go_wp2_with fail
  refine HASK.out.mono ?_
  rintro e w1 ⟨rfl, hb1⟩
  have hr1 := (hb1.block Q (lt_of_block HR0.out)).trans HR0.out
  have p0 := blk_cell hr1 0 (v := .int .u64 (x.1 : Int)) rfl
  have p1 := blk_cell hr1 1 (v := .slice p 500 cap) rfl
  have HLK := Lib.hid (pmLike_any x.1 (.slice p 500 cap) x.2 w1 (HBX.out.below hb1) (by rw [HX.out.2.1]; decide))
  have HB1 := Lib.hid hb1
  have HR1 := Lib.hid hr1
  clear hb1 hr1 HASK
  unfold PgV at *
  go_wp2_with fail
  refine HLK.out.mono ?_
  rintro e w2 ⟨u2, rfl, hO, hb2⟩
  obtain ⟨p2, c2, hu2, -⟩ := hO.bts.form
  rw [HX.out.2.1] at hu2
  subst hu2
  obtain ⟨R, hR⟩ : ∃ R, R = w2.heap.size := ⟨_, rfl⟩
  obtain ⟨W2, hW2⟩ : ∃ W2, W2 = w2.alloc (.cells #[.int .u64 (x.1 : Int), .slice p2 500 c2] 59) := ⟨_, rfl⟩
  have hb3 : Below w2.heap.size w2 W2 := by rw [hW2]; exact (Below.refl _ _).alloc (Nat.le_refl _) _
  have hrr : W2.heap[R]? = some (.cells #[.int .u64 (x.1 : Int), .slice p2 500 c2] 59 (0, 0)) := by rw [hW2, hR]; exact heap_alloc_last _ _
  have hbw : Below W.heap.size W W2 := (HB1.out.trans (hb2.mono HB1.out.size)).trans (hb3.mono (Nat.le_trans HB1.out.size hb2.size))
  have HIN2 := Lib.hid (HIN.out.below hbw)
  have HRR := Lib.hid hrr
  have HRQ : Hid (W2.heap[Q]? = some (.cells #[.int .u64 (x.1 : Int), .slice p 500 cap] 59 (0, 0))) := (hbw.block Q (lt_of_block HR0.out)).trans HR0.out
  have HBW : Hid (Below w.heap.size w W2) := HB.out.trans (hbw.mono HB.out.size)
  have HO2 := Lib.hid (hO.below hb3)
  have HRL : Hid (w.heap.size ≤ R ∧ w.heap.size ≤ w1.heap.size ∧ Q < R) := ⟨by rw [hR]; exact Nat.le_trans (Nat.le_trans HB.out.size HB1.out.size) hb2.size, Nat.le_trans HB.out.size HB1.out.size, by rw [hR]; have := lt_of_block HR1.out; have := hb2.size; omega⟩
  have hfb : ∀ g, w.heap.size ≤ g → ¬ Both U V g ∧ g ≠ P ∧ g ≠ mp := fun g hg => ⟨fun e => by have := wl_plt HH.out.log g e; omega, fun e => by have := HH.out.pm.row.lt; omega, fun e => by have := HH.out.pm.map.lt; omega⟩
  have HFB := Lib.hid hfb
  have hu2b : ∀ g, (Value.slice p2 500 c2).ownBlock = some g → w.heap.size ≤ g := fun g hg => Nat.le_trans HRL.out.2.1 (Nat.le_of_not_lt fun hlt => own_nota hO hg hlt)
  have HU2 := Lib.hid hu2b
  have hbr := pmBrought_put m x R HIN2.out HM.out HS.out HX.out (Fb := fun g => w.heap.size ≤ g) hfb (fun hnm w3 hand3 F3 h3 ht3 => by
    have hr3 := ht3.row HRR.out (fun e => by have := HH.out.pm.row.lt; have := HRL.out.1; omega)
    refine (pmFresh_any R x.1 p2 500 c2 (m : Int) hr3).mono ?_
    rintro e w4 ⟨rfl, hb4⟩
    rw [HX.out.2.1]
    refine ⟨p2, c2, rfl, (ht3.bts HO2.out.bts fun _ g hg e => ?_).below hb4, HU2.out, hb4⟩
    exact (HFB.out g (HU2.out g hg)).2.1 e)
  have HBR := Lib.hid hbr
  go_upto_region 7 with (fail)
  rw [← hW2, ← hR]
  clear hO hb2 hb3 hrr hbw hW2 hR hfb hu2b hbr HLK p0 p1 HR1
  go_wp2_with fail
  refine HBR.out.mono ?_
  intro e w4 hA
  rcases hA with ⟨i, hand1, F1, H1, U1, V1, d1, lg1, s1, dk, rfl, hi, hpg, hmem, hmv, hfree, hgood, hlog, hpm, -, hw, hnear, hcalm, hlf, hrule, hoff, ht, hgu, hgv, hX, -⟩ | ⟨hnf, rfl, hand1, F1, hin, hX, ht⟩ | ⟨hnc, rfl, U', d', lg', c, e1, e2, e3, e4, e5⟩
  case inr.inl =>
    have HE : Hid (_ ∧ _ ∧ _ ∧ _) := ⟨hnf, hin, hX, ht⟩
    clear hnf hin hX ht HBR
    go_wp2_with fail
    go_ret
    obtain ⟨hnf, hin, hX, ht⟩ := HE.out
    exact Or.inr (Or.inl ⟨hnf, rfl, hand1, F1, H, hin, hX, (Touch.of_new HBW.out).trans ht⟩)
  case inr.inr =>
    have HE : Hid (_ ∧ _ ∧ _ ∧ _ ∧ _ ∧ _) := ⟨hnc, e1, e2, e3, e4, e5⟩
    clear hnc e1 e2 e3 e4 e5 HBR
    go_wp2_with fail
    go_ret
    obtain ⟨hnc, e1, e2, e3, e4, e5⟩ := HE.out
    exact Or.inr (Or.inr ⟨hnc, rfl, U', d', lg', c, e1, e2, (Touch.of_new HBW.out).trans e3, e4.under HBW.out.size, e5⟩)
  have hi6 : i < 64 := by have h1 := hpm.bounds; have h2 := hpm.cnt; have hi : i < ({ s1 with now := Po.upd s.now m (Lr.ifP (m ∈ s.held) (s.now m) x), disk := dk } : Po.S).held.length := hi; omega
  have HI6 : Hid (i < 64) := hi6
  have HPM := Lib.hid hpm
  have HFREE := Lib.hid hfree
  have HE : Hid (_ ∧ _ ∧ _ ∧ _ ∧ _ ∧ _ ∧ _ ∧ _ ∧ _ ∧ _ ∧ _ ∧ _ ∧ _ ∧ _ ∧ _ ∧ _) := ⟨hi, hpg, hmem, hmv, hgood, hlog, hw, hnear, hcalm, hlf, hrule, hoff, ht, hgu, hgv, hX⟩
  have k4 := hpm.row.fr hi6 4 (by decide) (v := .bool (fa F1 i).dirty) rfl
  have hRT : ¬ (Both U V R ∨ R = P ∨ R = mp) := fun e => by
    obtain ⟨a1, a2, a3⟩ := HFB.out R HRL.out.1
    rcases e with e | e | e
    · exact a1 e
    · exact a2 e
    · exact a3 e
  have hQT : ¬ (Both U V Q ∨ Q = P ∨ Q = mp) := fun e => by
    obtain ⟨a1, a2, a3⟩ := HFB.out Q (by rw [HQ.out]; exact Nat.le_refl _)
    rcases e with e | e | e
    · exact a1 e
    · exact a2 e
    · exact a3 e
  have HRR4 : Hid (w4.heap[R]? = some (.cells #[.int .u64 (x.1 : Int), .slice p2 500 c2] 59 (0, 0))) := ht.row HRR.out hRT
  have HRQ4 : Hid (w4.heap[Q]? = some (.cells #[.int .u64 (x.1 : Int), .slice p 500 cap] 59 (0, 0))) := ht.row HRQ.out hQT
  have HU4 : Hid (Bts w4 (.slice p2 500 c2) x.2) := ht.bts HO2.out.bts fun _ g hg e => by
    obtain ⟨a1, a2, a3⟩ := HFB.out g (HU2.out g hg)
    rcases e with e | e | e
    · exact a1 e
    · exact a2 e
    · exact a3 e
  clear hi6 hi hpg hmem hmv hfree hgood hlog hpm hw hnear hcalm hlf hrule hoff ht hgu hgv hX hRT hQT HBR
  have HQP : Hid (Q ≠ P ∧ R ≠ P) := ⟨fun e => by have := HQ.out; have := HH.out.pm.row.lt; omega, fun e => by have := HRL.out.1; have := HH.out.pm.row.lt; omega⟩
  have HF1 : Hid (F1.length = 64) := HPM.out.row.len
  have HUL : Hid (∀ g, (Value.slice p2 500 c2).ownBlock = some g → g < W2.heap.size) := HO2.out.bts.own_lt (by rw [HX.out.2.1]; decide)
  cases hdt : (fa F1 i).dirty with
  | true =>
    rw [hdt] at k4
    have HDT := Lib.hid hdt
    have k1 := HPM.out.row.fr HI6.out 1 (by decide) (v := .int .u64 ((fa F1 i).lsn : Int)) rfl
    have k2 := HPM.out.row.fr HI6.out 2 (by decide) (v := (fa F1 i).u) rfl
    have f1 := HPM.out.row.free (5 + i * 7 + 1)
    have f2 := HPM.out.row.free (5 + i * 7 + 2)
    have p0 := blk_cell HRR4.out 0 (v := .int .u64 (x.1 : Int)) rfl
    have p1 := blk_cell HRR4.out 1 (v := .slice p2 500 c2) rfl
    have hr1 := HPM.out.row.set HI6.out 1 (by decide) (.int .u64 (x.1 : Int)) { fa F1 i with lsn := x.1 } rfl
    have hr2 := PmRow.again HF1.out HI6.out hr1 2 (by decide) (.slice p2 500 c2) { fa F1 i with lsn := x.1, u := .slice p2 500 c2 } rfl
    have HR2 := Lib.hid hr2
    clear hdt hr1 hr2
    go_wp2_with fail
    go_ret
    obtain ⟨hi, hpg, hmem, hmv, hgood, hlog, hw, hnear, hcalm, hlf, hrule, hoff, ht, hgu, hgv, hX⟩ := HE.out
    have ht9 : Touch (· = P) w4 ((w4.setCell ⟨P, 5 + i * 7 + 1, none⟩ (.int .u64 (x.1 : Int))).setCell ⟨P, 5 + i * 7 + 2, none⟩ (.slice p2 500 c2)) := (Touch.set (S := (· = P)) P _ _ rfl).trans (Touch.set P _ _ rfl)
    have hf1 := (HPM.out.fr i hi).first
    rw [hpg, HDT.out, if_pos rfl] at hf1
    have hfin := pt_final HH.out HX.out (HXL.out HFREE.out) HM.out HPM.out hi hpg hmem hmv hgood hlog hw hnear hlf hrule hoff hgu hgv hX HBW.out.size HU4.out (fun g hg => ⟨HU2.out g hg, HUL.out g hg⟩) ht9 { fa F1 i with lsn := x.1, u := .slice p2 500 c2 } rfl rfl HDT.out (HPM.out.fr i hi).fl rfl rfl (by
      have h1 := hmv.first m hmem
      have hf1 : s1.first m = _ := hf1
      rw [h1] at hf1
      rw [hf1]; rfl) (by have h9 := HR2.out; rw [show ({ s1 with now := Po.upd s.now m (Lr.ifP (m ∈ s.held) (s.now m) x), disk := dk } : Po.S).frames = s.frames from hmv.frames] at h9; exact h9)
    exact Or.inl ⟨hand1, F1.set i { fa F1 i with lsn := x.1, u := .slice p2 500 c2 }, H1, U1, V1, d1, lg1, _, rfl, hfin.1, hcalm, hlf, hfin.2.1, HFREE.out, ((Touch.of_new HBW.out).trans ht).trans (ht9.mono fun _ _ e => Or.inr (Or.inl e)), hgu.under HBW.out.size, hgv.under HBW.out.size, hfin.2.2⟩
  | false =>
    rw [hdt] at k4
    have HDT := Lib.hid hdt
    have HST : Hid (DtR P B S b N L s1.frames hand1 mp F1 i x.1 Q R #[.int .u64 (x.1 : Int), .slice p 500 cap] #[.int .u64 (x.1 : Int), .slice p2 500 c2] w4 (fun _ => false) w4.drew) := by
      refine ⟨?_, HRQ4.out, HRR4.out, (Touch.refl _ _).drew⟩
      exact Eq.mpr (congrArg (fun G => PmRow w4.drew P B S b N L s1.frames hand1 mp G) (fa_same (by rw [HF1.out]; exact HI6.out) _ (fr_eta _ HDT.out))) (HPM.out.row.below (Below.refl _ _).go1)
    clear hdt
    go_upto_region 11 with (fail)
    clear k4
    refine Ord.walk (DtF P i x.1 Q) (fun D _ w' => DtR P B S b N L s1.frames hand1 mp F1 i x.1 Q R #[.int .u64 (x.1 : Int), .slice p 500 cap] #[.int .u64 (x.1 : Int), .slice p2 500 c2] w4 D w') (fun _ _ => True) (by kernel_rfl) (by kernel_rfl) ?fr ?hfr ?hT (fun xs => HST.out) ?he ?hend
    case hfr =>
      intro xs
      simp only [Ord.fill, Act.put, List.setIfInBounds_toArray, List.set_cons_zero, List.set_cons_succ]
      rfl
    case hT =>
      intro k v wa wb ht hF
      exact hF
    case he =>
      refine Ord.each_cons (fun D xs w2 hD hC hP hR hA K' hK => ?_) ?_
      ·
        clear hA
        go_simp
        exact hK _ _ ⟨_, rfl, trivial, hR.quiet 0 (by decide) (by decide), rfl⟩
      refine Ord.each_cons (fun D xs w2 hD hC hP hR hA K' hK => ?_) ?_
      ·
        clear hA
        go_simp
        exact hK _ _ ⟨_, rfl, trivial, hR.quiet 1 (by decide) (by decide), rfl⟩
      refine Ord.each_cons (fun D xs w2 hD hC hP hR hA K' hK => ?_) ?_
      ·
        clear hA
        go_simp
        exact hK _ _ ⟨_, rfl, trivial, hR.quiet 2 (by decide) (by decide), rfl⟩
      refine Ord.each_cons (fun D xs w2 hD hC hP hR hA K' hK => ?_) ?_
      ·
        have q2 := Ord.ahead_get _ hA 2 (by decide)
        simp only [DtF] at q2
        simp only [q2] at hK ⊢
        clear hA
        have k0 := blk_cell hR.q 0 (v := .int .u64 (x.1 : Int)) rfl
        go_simp
        exact hK _ _ ⟨_, rfl, trivial, hR.quiet 3 (by decide) (by decide), rfl⟩
      refine Ord.each_cons (fun D xs w2 hD hC hP hR hA K' hK => ?_) ?_
      ·
        have q0 := Ord.ahead_get _ hA 0 (by decide)
        simp only [DtF] at q0
        simp only [q0] at hK ⊢
        clear hA
        go_simp
        exact hK _ _ ⟨_, rfl, trivial, hR.quiet 4 (by decide) (by decide), rfl⟩
      refine Ord.each_cons (fun D xs w2 hD hC hP hR hA K' hK => ?_) ?_
      ·
        have q4 := Ord.ahead_get _ hA 4 (by decide)
        simp only [DtF] at q4
        simp only [q4] at hK ⊢
        clear hA
        go_simp
        exact hK _ _ ⟨_, rfl, trivial, hR.quiet 5 (by decide) (by decide), rfl⟩
      refine Ord.each_cons (fun D xs w2 hD hC hP hR hA K' hK => ?_) ?_
      ·
        have q5 := Ord.ahead_get _ hA 5 (by decide)
        simp only [DtF] at q5
        simp only [q5] at hK ⊢
        clear hA
        have hg := fa_set F1 (i := i) (by rw [HF1.out]; exact HI6.out) { fa F1 i with dirty := D 6, first := if D 9 then x.1 else (fa F1 i).first } i
        rw [if_pos rfl] at hg
        have k4 := hR.row.fr HI6.out 4 (by decide) (v := .bool (D 6)) (by rw [hg]; rfl)
        have f4 := hR.row.free (5 + i * 7 + 4)
        have hq := hR.at6 HF1.out HI6.out HQP.out.1 HQP.out.2
        clear hg
        go_simp
        exact hK _ _ ⟨undef, rfl, trivial, hq, trivial⟩
      refine Ord.each_cons (fun D xs w2 hD hC hP hR hA K' hK => ?_) ?_
      ·
        have q1 := Ord.ahead_get _ hA 1 (by decide)
        simp only [DtF] at q1
        simp only [q1] at hK ⊢
        clear hA
        go_simp
        exact hK _ _ ⟨_, rfl, trivial, hR.quiet 7 (by decide) (by decide), rfl⟩
      refine Ord.each_cons (fun D xs w2 hD hC hP hR hA K' hK => ?_) ?_
      ·
        have q7 := Ord.ahead_get _ hA 7 (by decide)
        simp only [DtF] at q7
        simp only [q7] at hK ⊢
        clear hA
        go_simp
        exact hK _ _ ⟨_, rfl, trivial, hR.quiet 8 (by decide) (by decide), rfl⟩
      refine Ord.each_cons (fun D xs w2 hD hC hP hR hA K' hK => ?_) ?_
      ·
        have q8 := Ord.ahead_get _ hA 8 (by decide)
        simp only [DtF] at q8
        have q3 := Ord.ahead_get _ hA 3 (by decide)
        simp only [DtF] at q3
        simp only [q8, q3] at hK ⊢
        clear hA
        have hg := fa_set F1 (i := i) (by rw [HF1.out]; exact HI6.out) { fa F1 i with dirty := D 6, first := if D 9 then x.1 else (fa F1 i).first } i
        rw [if_pos rfl] at hg
        have k5 := hR.row.fr HI6.out 5 (by decide) (v := .int .u64 ((if D 9 then x.1 else (fa F1 i).first : Nat) : Int)) (by rw [hg]; rfl)
        have f5 := hR.row.free (5 + i * 7 + 5)
        have hq := hR.at9 HF1.out HI6.out HQP.out.1 HQP.out.2
        clear hg
        go_simp
        exact hK _ _ ⟨undef, rfl, trivial, hq, trivial⟩
      exact Ord.each_nil
    case hend =>
      intro D xs w8 hR hF
      have d6 := (hF 6 (by decide)).1
      have d9 := (hF 9 (by decide)).1
      have hrow := hR.row
      rw [d6, d9, if_pos rfl] at hrow
      have HR8 := Lib.hid hrow
      have HRR8 := Lib.hid hR.r
      have HT8 := Lib.hid hR.touch
      generalize xs 0 = y0
      generalize xs 1 = y1
      generalize xs 2 = y2
      generalize xs 3 = y3
      generalize xs 4 = y4
      generalize xs 5 = y5
      generalize xs 7 = y7
      generalize xs 8 = y8
      have hg := fa_set F1 (i := i) (by rw [HF1.out]; exact HI6.out) { fa F1 i with dirty := true, first := x.1 } i
      rw [if_pos rfl] at hg
      have k1 := HR8.out.fr HI6.out 1 (by decide) (v := .int .u64 ((fa F1 i).lsn : Int)) (by rw [hg]; rfl)
      have k2 := HR8.out.fr HI6.out 2 (by decide) (v := (fa F1 i).u) (by rw [hg]; rfl)
      have f1 := HR8.out.free (5 + i * 7 + 1)
      have f2 := HR8.out.free (5 + i * 7 + 2)
      have p0 := blk_cell HRR8.out 0 (v := .int .u64 (x.1 : Int)) rfl
      have p1 := blk_cell HRR8.out 1 (v := .slice p2 500 c2) rfl
      have hr1 := PmRow.again HF1.out HI6.out HR8.out 1 (by decide) (.int .u64 (x.1 : Int)) { fa F1 i with dirty := true, first := x.1, lsn := x.1 } rfl
      have hr2 := PmRow.again HF1.out HI6.out hr1 2 (by decide) (.slice p2 500 c2) { fa F1 i with dirty := true, first := x.1, lsn := x.1, u := .slice p2 500 c2 } rfl
      have HR2 := Lib.hid hr2
      clear hF hR d6 d9 hrow hg hr1 hr2
      go_wp2_with fail
      go_ret
      obtain ⟨hi, hpg, hmem, hmv, hgood, hlog, hw, hnear, hcalm, hlf, hrule, hoff, ht, hgu, hgv, hX⟩ := HE.out
      have ht9 : Touch (· = P) w4 ((w8.setCell ⟨P, 5 + i * 7 + 1, none⟩ (.int .u64 (x.1 : Int))).setCell ⟨P, 5 + i * 7 + 2, none⟩ (.slice p2 500 c2)) := (HT8.out.trans (Touch.set (S := (· = P)) P _ _ rfl)).trans (Touch.set P _ _ rfl)
      have hf1 := (HPM.out.fr i hi).first
      rw [hpg, HDT.out] at hf1
      have hf1 : s1.first m = none := hf1
      have hfin := pt_final HH.out HX.out (HXL.out HFREE.out) HM.out HPM.out hi hpg hmem hmv hgood hlog hw hnear hlf hrule hoff hgu hgv hX HBW.out.size HU4.out (fun g hg => ⟨HU2.out g hg, HUL.out g hg⟩) ht9 { fa F1 i with dirty := true, first := x.1, lsn := x.1, u := .slice p2 500 c2 } rfl rfl rfl HX.out.1 rfl rfl (by
        have h1 := hmv.first m hmem
        rw [hf1] at h1
        rw [← h1]; rfl) (by have h9 := HR2.out; rw [hmv.frames] at h9; exact h9)
      exact Or.inl ⟨hand1, F1.set i { fa F1 i with dirty := true, first := x.1, lsn := x.1, u := .slice p2 500 c2 }, H1, U1, V1, d1, lg1, _, rfl, hfin.1, hcalm, hlf, hfin.2.1, HFREE.out, ((Touch.of_new HBW.out).trans ht).trans (ht9.mono fun _ _ e => Or.inr (Or.inl e)), hgu.under HBW.out.size, hgv.under HBW.out.size, hfin.2.2⟩
end Go.Proofs.YtbpodmallknhfaaGreat
namespace Go.Proofs.YtbpodmallknhfaaGreat
open Go.RowKit
theorem pmPut_not {w : World} (p : Option Addr) (m : Int) (x : Nat) (u : Value) (l : List Nat) (k : Nat) (hk : 1 ≤ k) (hB : Bts w u l) (hask : ∀ W, Below w.heap.size w W → Calls Tryz.prog 47 #[.pointer p, .int .i64 m] W fun e w' => e = .returned (.int .i64 (k : Int)) ∧ Below W.heap.size W w') :
    Calls Tryz.prog 21 #[.pointer p, .int .i64 m, PgV x u] w fun e w' => e = .returned (.int .i64 (k : Int)) ∧ Below w.heap.size w w' := by
  obtain ⟨q, cap, hu, -⟩ := hB.form
  obtain ⟨W, hW⟩ : ∃ W, W = w.alloc (.cells #[.int .u64 (x : Int), u] 59) := ⟨_, rfl⟩
  have hb : Below w.heap.size w W := by rw [hW]; exact (Below.refl _ _).alloc (Nat.le_refl _) _
  have HASK := Lib.hid (hask W hb)
  have HB := Lib.hid hb
  have h1 : ¬ (k : Int) = 0 := by omega
  have h2 : ((k : Int) != 0) = true := by simp; omega
  clear hask hb hk hB
  subst hu
  unfold PgV
  go_enter Tryz.func21, Tryz.ntmps21
  go_upto_region 1 with (fail)
  rw [← hW]
  clear hW
  go_wp2_with fail
  refine HASK.out.mono ?_
  rintro e w1 ⟨rfl, hb1⟩
  have HE := Lib.hid hb1
  clear hb1 HASK
  go_wp2_with fail
  go_ret
  exact ⟨rfl, HB.out.trans (HE.out.mono HB.out.size)⟩
end Go.Proofs.YtbpodmallknhfaaGreat
namespace Go.Proofs.YtbpodmallknhfaaGreat
open Go.RowKit
theorem pm_zero (B S b N L fr mp : Nat) : ((((((Tryz.zeroCells100.setIfInBounds 0 (Value.pointer (some ⟨B, 0, none⟩))).setIfInBounds 1 (Value.int .i64 (S : Int))).setIfInBounds 2 (Value.int .i64 (b : Int))).setIfInBounds 3 (Value.int .i64 (N : Int))).setIfInBounds 4 (Value.pointer (some ⟨L, 0, none⟩))).setIfInBounds 453 (Value.int .i64 (fr : Int))).setIfInBounds 455 (Value.map (some mp)) = (pmC B S b N L fr 0 mp (List.replicate 64 Fr.zero)).toArray := by kernel_rfl
def NwA (B S b N L fr : Nat) (w : World) (e : Ending) (w' : World) : Prop :=
  ∃ P mp, e = .returned (.tuple #[.pointer (some ⟨P, 0, none⟩), .int .i64 0]) ∧ PmRow w' P B S b N L fr 0 mp (List.replicate 64 Fr.zero) ∧ HmAt w' mp (List.replicate N none) ∧ w.heap.size ≤ P ∧ w.heap.size ≤ mp ∧ P ≠ mp ∧ Below w.heap.size w w'
set_option maxHeartbeats 1600000 in
theorem pmNew_walk {w : World} {B L m1 m2 n S b N a c : Nat} {d : Dk.Dev} {k : Wl.Kn} {pl wa : Value} {dn : Bool} (hP : PDev w B m1 m2 d) (hN : Wl.Near n d) (hf : (arN S b N).Fits n) (hn : n ≤ 65536) (hl : LogAt w L k B a c pl wa dn) (hk : k.start ≠ 0) (fr : Nat) (hfr : 1 ≤ fr ∧ fr ≤ 64) :
    Calls Tryz.prog 18 #[.pointer (some ⟨B, 0, none⟩), .pointer (some ⟨L, 0, none⟩), ArV (arN S b N), .int .i64 (fr : Int)] w fun e w' => NwA B S b N L fr w e w' := by
  have hL := fits_lies.1 hf
  obtain ⟨W, hW, hA, hb⟩ := md_boxes (arN S b N) w
  have hs := hL.spare
  have h16 := hL.base
  have HST := Lib.hid (wlStart_any (hl.below hb))
  have hmm := @run_makeMap Tryz.prog
  have hst0 : ¬ (k.start : Int) = 0 := by omega
  have hst1 : ((k.start : Int) == 0) = false := by simp; omega
  have HLD := Lib.hid (laid_any_ (hP.below hb) hN.sz (by omega) hn (arN S b N) ⟨⟨by unfold arN; dsimp only; omega, by unfold arN; dsimp only; omega⟩, ⟨by unfold arN; dsimp only; omega, by unfold arN; dsimp only; omega⟩, ⟨by unfold arN; dsimp only; omega, by unfold arN; dsimp only; omega⟩⟩)
  have a0 := blk_cell hA 0 (v := .int .i64 (S : Int)) rfl
  have a1 := blk_cell hA 1 (v := .int .i64 (b : Int)) rfl
  have a2 := blk_cell hA 2 (v := .int .i64 (N : Int)) rfl
  have HF := Lib.hid hf
  have HB := Lib.hid hb
  have HFR := Lib.hid hfr
  have HN16 : Hid (N ≤ 65536) := by show _ ≤ _; omega
  have e1 : ¬ (fr : Int) < 1 := by omega
  have e2 : ¬ (64 : Int) < (fr : Int) := by omega
  clear hP hN hf hn hl hk hfr hL hA hb hs h16
  unfold ArV
  go_enter Tryz.func18, Tryz.ntmps18
  go_upto_region 1 with (fail)
  rw [← hW]
  clear hW
  go_wp2_with fail
  refine HST.out.mono ?_
  rintro e w0 ⟨rfl, rfl⟩
  clear HST
  go_wp2_with fail
  refine HLD.out.mono ?_
  rintro e w1 ⟨hb1, he, -⟩
  have he := he HF.out
  subst he
  have HB1 := Lib.hid hb1
  obtain ⟨W2, hW2⟩ : ∃ W2, W2 = w1.alloc (.cells #[.pointer (some ⟨B, 0, none⟩), .int .i64 (S : Int), .int .i64 (b : Int), .int .i64 (N : Int)] 95) := ⟨_, rfl⟩
  have hb2 : Below w1.heap.size w1 W2 := by rw [hW2]; exact (Below.refl _ _).alloc (Nat.le_refl _) _
  have hr2 : RgAt W2 w1.heap.size B S b N := by rw [hW2]; exact heap_alloc_last _ _
  have hc0 := hr2.c0
  have h1c := hr2.c1
  have h2c := hr2.c2
  have h3c := hr2.c3
  obtain ⟨Q, hQ⟩ : ∃ Q, Q = w1.heap.size := ⟨_, rfl⟩
  rw [← hQ] at hc0 h1c h2c h3c
  have HB2 := Lib.hid hb2
  clear hb1 hb2 hr2 HLD a0 a1 a2
  unfold RgI arN
  dsimp only
  go_upto_region 4 with (fail)
  rw [← hW2, ← hQ]
  clear hW2 hQ
  go_upto_region 8 with (fail)
  go_wp2_with fail
  go_ret2
  have hz := pm_zero B S b N L fr W2.heap.size
  have hs2 : w.heap.size ≤ W2.heap.size := Nat.le_trans (Nat.le_trans HB.out.size HB1.out.size) HB2.out.size
  have hm := hm_made W2 HN16.out
  have hbm : Below W2.heap.size W2 (W2.alloc (.map #[] 0)) := (Below.refl _ _).alloc (Nat.le_refl _) _
  have hs3 : (W2.alloc (.map #[] 0)).heap.size = W2.heap.size + 1 := by simp
  refine ⟨W2.heap.size + 1, W2.heap.size, rfl, ⟨List.length_replicate, ?_⟩, ?_, by omega, hs2, by omega, ?_⟩
  · rw [← hz]
    have h1 := heap_alloc_last (W2.alloc (.map #[] 0)) (.cells (((((((Tryz.zeroCells100.setIfInBounds 0 (Value.pointer (some ⟨B, 0, none⟩))).setIfInBounds 1 (Value.int .i64 (S : Int))).setIfInBounds 2 (Value.int .i64 (b : Int))).setIfInBounds 3 (Value.int .i64 (N : Int))).setIfInBounds 4 (Value.pointer (some ⟨L, 0, none⟩))).setIfInBounds 453 (Value.int .i64 (fr : Int))).setIfInBounds 455 (Value.map (some W2.heap.size))) 100)
    rw [hs3] at h1
    exact h1
  · exact hm.below ((Below.refl _ _).alloc (Nat.le_refl _) _)
  · exact ((((HB.out.trans (HB1.out.mono HB.out.size)).trans (HB2.out.mono (Nat.le_trans HB.out.size HB1.out.size))).trans (hbm.mono hs2)).alloc (by omega) _)
end Go.Proofs.YtbpodmallknhfaaGreat
