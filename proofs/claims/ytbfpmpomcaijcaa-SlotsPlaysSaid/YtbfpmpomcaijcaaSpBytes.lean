/- The form that the program's Bytes of slots makes. Conditions: the values read as a body; few slots and bytes. -/
import Derived.Test.YtbfpmpomcaijcaaSpMay
import Derived.Test.YtbfpmpomcaijcaaSpRow
import Derived.Test.YtbfpmpomcaijcaaSlSt
import Derived.Test.YtbfpmpomcaijcaaCodeFix
namespace Go.Proofs.Ytbfpmpomcaijcaa
open Go.RowKit

/-- Bytes, and noughts up to 500 of them. -/
def fillz (l : List Nat) : List Nat := l ++ List.replicate (500 - l.length) 0
theorem fillz_length {l : List Nat} (h : l.length ≤ 500) : (fillz l).length = 500 := by unfold fillz; simp; omega
theorem fillz_laid {l cs : List Nat} {off : Nat} (ho : off = l.length) (h : l.length + cs.length ≤ 500) : laid (fillz l) off cs = fillz (l ++ cs) := by
  subst ho
  unfold laid fillz
  have e : List.replicate (500 - l.length) 0 = List.replicate cs.length 0 ++ List.replicate (500 - (l ++ cs).length) 0 := by
    rw [List.replicate_append_replicate]; congr 1; simp; omega
  have e2 : (l ++ List.replicate (500 - l.length) 0).drop (l.length + cs.length) = List.replicate (500 - (l ++ cs).length) 0 := by
    rw [e, ← List.append_assoc]; exact List.drop_left' (by simp)
  rw [List.take_left, e2, List.append_assoc]
theorem fillz_set {l : List Nat} (x : Nat) {off : Nat} (ho : off = l.length) (h : l.length < 500) : (fillz l).set off x = fillz (l ++ [x]) := by
  subst ho
  unfold fillz
  obtain ⟨m, hm⟩ : ∃ m, 500 - l.length = m + 1 := ⟨500 - l.length - 1, by omega⟩
  have e : 500 - (l ++ [x]).length = m := by simp; omega
  rw [hm, e, List.set_append_right _ _ (Nat.le_refl _), Nat.sub_self, List.replicate_succ, List.set_cons_zero, List.append_assoc]
  rfl

/-- Bytes told by a call are copied into a row: what stands while operations float. -/
structure ByR (ci di ai : Nat) (av : Value) (b0 g off : Nat) (L cs : List Nat) (W : World) (D : Nat → Bool) (xs : Nat → Value) (w : World) : Prop where
  bel : Below b0 W w
  big : b0 ≤ W.heap.size
  hold : D ai = false → xs ai = av
  old : D di = false → Own b0 w (.slice (some ⟨g, 0, none⟩) 500 500) L
  cl : D ci = true → D di = false → Own b0 w (xs ci) cs
  new : D di = true → Own b0 w (.slice (some ⟨g, 0, none⟩) 500 500) (laid L off cs)
section
variable {ci di ai b0 g off : Nat} {av : Value} {L cs : List Nat} {W w w' : World} {D : Nat → Bool} {xs : Nat → Value} {u : Value}
theorem ByR.first (xs : Nat → Value) (h0 : xs ai = av) (h1 : b0 ≤ W.heap.size) (h2 : Own b0 W (.slice (some ⟨g, 0, none⟩) 500 500) L) : ByR ci di ai av b0 g off L cs W (fun _ => false) xs W.drew :=
  ⟨(Below.refl _ _).go1, h1, fun _ => h0, fun _ => h2.below (Below.refl _ _).go1, fun h => (by cases h), fun h => (by cases h)⟩
theorem ByR.skip (h : ByR ci di ai av b0 g off L cs W D xs w) (j : Nat) (hj : (j != ci && j != di && j != ai) = true) : ByR ci di ai av b0 g off L cs W (Ord.wth D j) (Ord.set xs j u) w := by
  simp only [Bool.and_eq_true, bne_iff_ne] at hj
  obtain ⟨⟨n1, n2⟩, n3⟩ := hj
  refine ⟨h.bel, h.big, ?_, ?_, ?_, ?_⟩
  · rw [wth_ne _ (Ne.symm n3), oset_ne _ _ (Ne.symm n3)]; exact h.hold
  · rw [wth_ne _ (Ne.symm n2)]; exact h.old
  · rw [wth_ne _ (Ne.symm n1), wth_ne _ (Ne.symm n2), oset_ne _ _ (Ne.symm n1)]; exact h.cl
  · rw [wth_ne _ (Ne.symm n2)]; exact h.new
theorem ByR.call (h : ByR ci di ai av b0 g off L cs W D xs w) (h12 : (ci != di && ci != ai) = true) (h3 : D di = false) (hO : Own w.heap.size w' u cs) (hb : Below w.heap.size w w') : ByR ci di ai av b0 g off L cs W (Ord.wth D ci) (Ord.set xs ci u) w' := by
  simp only [Bool.and_eq_true, bne_iff_ne] at h12
  obtain ⟨n1, n3⟩ := h12
  have hsz := Nat.le_trans h.big h.bel.size
  refine ⟨h.bel.trans (hb.mono hsz), h.big, ?_, ?_, ?_, ?_⟩
  · rw [wth_ne _ (Ne.symm n3), oset_ne _ _ (Ne.symm n3)]; exact h.hold
  · rw [wth_ne _ (Ne.symm n1)]; exact fun a => (h.old a).below hb
  · rw [oset_self]; exact fun _ _ => hO.from hsz
  · rw [wth_ne _ (Ne.symm n1), h3]; intro a; cases a
theorem ByR.laid (h : ByR ci di ai av b0 g off L cs W D xs w) (n3 : di ≠ ai) (hg0 : b0 ≤ g) (hO : Own b0 w' (.slice (some ⟨g, 0, none⟩) 500 500) (laid L off cs)) (hg : w.grownBy w' (some g)) : ByR ci di ai av b0 g off L cs W (Ord.wth D di) (Ord.set xs di u) w' := by
  refine ⟨below_grown h.bel hg (Nat.le_trans h.big h.bel.size) hg0, h.big, ?_, ?_, ?_, ?_⟩
  · rw [wth_ne _ (Ne.symm n3), oset_ne _ _ (Ne.symm n3)]; exact h.hold
  · rw [wth_self]; intro a; cases a
  · rw [wth_self]; intro _ a; cases a
  · exact fun _ => hO
theorem ByR.give (h : ByR ci di ai av b0 g off L cs W D xs w) (n12 : (ai != ci && ai != di) = true) : ByR ci di ai av b0 g off L cs W (Ord.wth D ai) (Ord.set xs ai u) w := by
  simp only [Bool.and_eq_true, bne_iff_ne] at n12
  obtain ⟨n1, n2⟩ := n12
  refine ⟨h.bel, h.big, ?_, ?_, ?_, ?_⟩
  · rw [wth_self]; intro a; cases a
  · rw [wth_ne _ (Ne.symm n2)]; exact h.old
  · rw [wth_ne _ (Ne.symm n1), wth_ne _ (Ne.symm n2), oset_ne _ _ (Ne.symm n1)]; exact h.cl
  · rw [wth_ne _ (Ne.symm n2)]; exact h.new
end

/-- What the operations left. -/
def B5F (P g next : Nat) (i : Nat) (v : Value) (_ : World) : Prop :=
  match i with
  | 0 => v = .slice (some ⟨g, 0, none⟩) 500 500
  | 1 => v = .slice (some ⟨g, 1, none⟩) 499 499
  | 2 => v = .pointer (some ⟨P, 1, none⟩)
  | 3 => v = .int .u32 (next : Int)
  | _ => True
def B11F (P g a k : Nat) (f : Bool) (bd od nd cd : Nat) (q : Option Addr) (z c m : Nat) (i : Nat) (v : Value) (_ : World) : Prop :=
  match i with
  | 0 => v = .int .i64 (a : Int)
  | 1 => v = .slice (some ⟨g, 0, none⟩) 500 500
  | 2 => v = .int .i64 (a : Int)
  | 3 => v = .slice (some ⟨g, a, none⟩) (500 - a) (500 - a)
  | 4 => v = .bool f
  | 5 => v = .pointer (some ⟨P, 3, none⟩)
  | 6 => v = .slice (some ⟨bd, od, none⟩) nd cd
  | 7 => v = .int .i64 (k : Int)
  | 8 => v = .pointer (some ⟨bd, od + k, none⟩)
  | 9 => v = .slice q z c
  | 10 => v = .int .u16 (m : Int)
  | 12 => v = .int .i64 2
  | 13 => v = .int .i64 ((a + 2 : Nat) : Int)
  | 14 => v = .int .i64 ((a + 2 : Nat) : Int)
  | _ => True

set_option maxHeartbeats 6400000 in
set_option maxRecDepth 20000 in
theorem pBytes_any (fv dv : Value) (s : Sl.S) (w : World) (h : SlAt w fv dv s) (hs : Sl.Small s) :
    Calls Try.prog 11 #[SlV s.kind s.next fv dv] w fun e w' => ∃ u, e = .returned (.tuple #[u, .int .i64 ((Sl.ifP (Sl.May s) 0 2 : Nat) : Int)]) ∧ Own w.heap.size w' u (Sl.ifP (Sl.May s) (Sl.form s) []) ∧ Below w.heap.size w w' := by
  obtain ⟨W, hW⟩ : ∃ W, W = w.alloc (sobj s.kind s.next fv dv) := ⟨_, rfl⟩
  have hb0 : Below w.heap.size w W := by rw [hW]; exact below_new _ _
  have hrow := sblk w s.kind s.next fv dv
  rw [← hW] at hrow
  have hA := h.below hb0
  obtain ⟨p1, c1, p2, c2, rfl, rfl⟩ := slv_slices hA
  obtain ⟨q0, q1, q2, q3⟩ := four_cell hrow
  unfold sobj at hW
  have HM := Lib.hid (pMay_any _ _ s W hA hs)
  obtain ⟨P, hP⟩ : ∃ P, P = w.heap.size := ⟨_, rfl⟩
  rw [← hP] at hrow q0 q1 q2 q3
  have HA := Lib.hid hA
  have HROW := Lib.hid hrow
  have HB0 := Lib.hid hb0
  have HKN : Hid (s.kind < 256 ∧ s.next < 4294967296) := ⟨h.kind, h.next⟩
  obtain ⟨er, her⟩ : ∃ er, er = Sl.ifP (Sl.May s) 0 2 := ⟨_, rfl⟩
  obtain ⟨fo, hfo⟩ : ∃ fo, fo = Sl.ifP (Sl.May s) (Sl.form s) [] := ⟨_, rfl⟩
  rw [← her, ← hfo]
  have HER := Lib.hid her
  have HFO := Lib.hid hfo
  clear hb0 hrow hA h hs her hfo
  go_enter Try.func11, Try.ntmps11
  go_upto_region 1 with (fail)
  rw [← hW, ← hP]
  clear hW
  have HP := Lib.hid hP
  clear hP
  by_cases hmy : Sl.May s
  · have HMY := Lib.hid hmy
    rw [Sl.may_true hmy] at HM
    have HE : Hid (er = 0) := by show er = 0; rw [HER.out]; exact Sl.ifP_pos hmy _ _
    have HF0 : Hid (fo = Sl.form s) := by show fo = _; rw [HFO.out]; exact Sl.ifP_pos hmy _ _
    clear hmy
    go_wp2_with fail
    refine HM.out.mono ?_
    rintro e w2 ⟨rfl, hb2⟩
    have HA2 := Lib.hid (HA.out.below hb2)
    have HR2 : Hid (w2.heap[P]? = some (.cells #[.int .u8 (s.kind : Int), .int .u32 (s.next : Int), .slice p1 s.full.length c1, .slice p2 s.data.length c2] 26 (0, 0))) := by
      show _ = _
      rw [hb2.block _ (lt_of_block HROW.out)]; exact HROW.out
    have HB2 := Lib.hid (HB0.out.trans (hb2.mono HB0.out.size))
    have HPL : Hid (P < w2.heap.size) := lt_of_block HR2.out
    clear hb2 q0 q1 q2 q3 HM
    go_upto_region 3 with (fail)
    iterate 1 go_step
    refine wpList_plain rfl fun K hK => wp_make_len (.const (.int .i64 500)) (.const (.int .i64 500)) rfl w2.heap.size .i64 .i64 500 rfl rfl (by decide) (Nat.le_refl _) fun w3 hO3 hg3 => hK _ _ ?_
    clear hK
    have hb3 : Below w2.heap.size w2 w3 := (Below.refl _ _).grown hg3 (Nat.le_refl _) (fun i hi => by cases hi)
    obtain ⟨g, hg⟩ : ∃ g, g = w2.heap.size := ⟨_, rfl⟩
    rw [← hg] at hO3 ⊢
    have HG : Hid (w2.heap.size ≤ g) := by show _ ≤ g; omega
    rw [hg] at hO3
    rw [← hg] at hO3
    have HO3 : Hid (Own w2.heap.size w3 (.slice (some ⟨g, 0, none⟩) 500 500) (List.replicate 500 0)) := by rw [hg] at hO3 ⊢; exact hO3
    have HB3 := Lib.hid hb3
    clear hb3 hO3 hg3 hg
    obtain ⟨q0, q1, q2, q3⟩ := four_cell (show w3.heap[P]? = _ by rw [HB3.out.block _ HPL.out]; exact HR2.out)
    obtain ⟨x0, f0⟩ := HO3.out.cellAt (by simp) 0 (by decide)
    obtain ⟨hO4, hg4⟩ := HO3.out.stored (by simp) 0 s.kind HKN.out.1
    obtain ⟨W4, hW4⟩ : ∃ W4, W4 = w3.setCell ⟨g, 0, none⟩ (.int .u8 (s.kind : Int)) := ⟨_, rfl⟩
    rw [← hW4] at hO4 hg4
    have HB4 := Lib.hid (below_grown HB3.out hg4 HB3.out.size HG.out)
    have HO4 := Lib.hid hO4
    clear hO4 hg4
    go_upto_region 5 with (fail)
    rw [← hW4]
    clear hW4 q0 q1 q2 q3 x0 f0 HO3 HB3
    have HBIG : Hid (w2.heap.size ≤ W4.heap.size) := HB4.out.size
    have HL4 : Hid (((List.replicate 500 0).set 0 s.kind).length = 500) := by show _ = _; simp
    refine Ord.walkF (B5F P g s.next) (ByR 4 5 99 undef w2.heap.size g 1 ((List.replicate 500 0).set 0 s.kind) (Cod.le 4 s.next) W4) (fun _ _ => True)
      (by kernel_rfl) (by kernel_rfl) ?fr5 ?hfr5 (fun _ _ _ _ _ h => h) (fun xs hx => ByR.first xs (hx 99) HBIG.out HO4.out) ?he5 ?hend5
    case hfr5 =>
      intro xs
      simp only [Ord.fill, Act.put, List.setIfInBounds_toArray, List.set_cons_zero, List.set_cons_succ]
      rfl
    case he5 =>
      refine Ord.each_cons (fun D xs wz hD hC hP hR hA K hK => ?_) ?_
      · -- 0
        clear hA
        go_simp
        exact hK _ _ ⟨_, rfl, trivial, hR.skip _ (by decide), rfl⟩
      refine Ord.each_cons (fun D xs wz hD hC hP hR hA K hK => ?_) ?_
      · -- 1
        have q0 := Ord.ahead_get _ hA 0 (by decide)
        simp only [B5F] at q0
        simp only [q0] at hK
        clear hA
        go_simp
        exact hK _ _ ⟨_, rfl, trivial, hR.skip _ (by decide), rfl⟩
      refine Ord.each_cons (fun D xs wz hD hC hP hR hA K hK => ?_) ?_
      · -- 2
        clear hA
        go_simp
        exact hK _ _ ⟨_, rfl, trivial, hR.skip _ (by decide), rfl⟩
      refine Ord.each_cons (fun D xs wz hD hC hP hR hA K hK => ?_) ?_
      · -- 3
        have q2 := Ord.ahead_get _ hA 2 (by decide)
        simp only [B5F] at q2
        simp only [q2] at hK
        clear hA
        obtain ⟨x0, x1, x2, x3⟩ := four_cell (show wz.heap[P]? = _ by rw [(HB4.out.trans hR.bel).block _ HPL.out]; exact HR2.out)
        go_simp
        exact hK _ _ ⟨_, rfl, trivial, hR.skip _ (by decide), rfl⟩
      refine Ord.each_cons (fun D xs wz hD hC hP hR hA K hK => ?_) ?_
      · -- 4
        have q3 := Ord.ahead_get _ hA 3 (by decide)
        simp only [B5F] at q3
        simp only [q3] at hK
        clear hA
        have h5 : D 5 = false := by
          cases h : D 5
          · rfl
          · have := Ord.closed_at hC 5 4 (by kernel_rfl) h
            rw [hD] at this; cases this
        go_simp
        refine (Put32_any _ [] s.next _ (own_nil 0 _).bts (by decide)).mono ?_
        rintro e w' ⟨u, rfl, hO, hb⟩
        rw [List.nil_append] at hO
        exact hK _ _ ⟨_, rfl, trivial, hR.call (by decide) h5 hO hb, trivial⟩
      refine Ord.each_cons (fun D xs wz hD hC hP hR hA K hK => ?_) ?_
      · -- 5
        have q1 := Ord.ahead_get _ hA 1 (by decide)
        simp only [B5F] at q1
        clear hA
        have h4 : D 4 = true := hP { on := 4, ground := .data } (by simp) rfl
        refine wp_copy_Own (.tmp 19) (.tmp 22) rfl w2.heap.size g 500 500 1 _ (hR.old hD) HL4.out (some ⟨g, 1, none⟩) 499 499 (by rw [← q1]; rfl) (xs 4) (Cod.le 4 s.next) rfl (hR.cl h4 hD).bts (by rw [Cod.le_length]; decide) (fun _ => rfl) (by rw [Cod.le_length]; decide) fun w' hO2 hg2 => ?_
        exact hK _ _ ⟨_, rfl, trivial, hR.laid (by decide) HG.out hO2 hg2, trivial⟩
      exact Ord.each_nil
    case hend5 =>
      intro D5 xs5 w5 hR5 hF5
      have hO5 := hR5.new (hF5 5 (by decide)).1
      have hb5 := HB4.out.trans hR5.bel
      have e4 : (List.replicate 500 0).set 0 s.kind = fillz [s.kind] := fillz_set (l := []) s.kind rfl (by decide)
      rw [e4, fillz_laid (l := [s.kind]) (cs := Cod.le 4 s.next) (off := 1) rfl (by simp [Cod.le_length])] at hO5
      have HO5 := Lib.hid hO5
      have HB5 := Lib.hid hb5
      clear hO5 hb5 hR5 hF5 e4 HO4 HB4 HL4 HBIG
      generalize xs5 0 = t0 at *
      generalize xs5 1 = t1 at *
      generalize xs5 2 = t2 at *
      generalize xs5 3 = t3 at *
      generalize xs5 4 = t4 at *
      generalize xs5 5 = t5 at *
      obtain ⟨q0, q1, q2, q3⟩ := four_cell (show w5.heap[P]? = _ by rw [HB5.out.block _ HPL.out]; exact HR2.out)
      have hl5 : ([s.kind] ++ Cod.le 4 s.next).length = 5 := by rw [List.length_append, Cod.le_length]; rfl
      have hfl : (fillz ([s.kind] ++ Cod.le 4 s.next)).length = 500 := fillz_length (by rw [hl5]; decide)
      obtain ⟨x0, f0⟩ := HO5.out.cellAt hfl 5 (by decide)
      have hn : s.full.length ≤ 247 := HMY.out.most
      obtain ⟨hO6, hg6⟩ := HO5.out.stored hfl 5 s.full.length (by omega)
      have hw8 := IntWalk.u8_in (s.full.length : Int) (by omega)
      rw [fillz_set _ hl5.symm (by rw [hl5]; decide)] at hO6
      have ehd : [s.kind] ++ Cod.le 4 s.next ++ [s.full.length] = Sl.head s := by unfold Sl.head; rw [HMY.out.len]; rfl
      rw [ehd] at hO6
      obtain ⟨W6, hW6⟩ : ∃ W6, W6 = w5.setCell ⟨g, 5, none⟩ (.int .u8 (s.full.length : Int)) := ⟨_, rfl⟩
      rw [← hW6] at hO6 hg6
      have HB6 := Lib.hid (below_grown HB5.out hg6 HB5.out.size HG.out)
      have HO6 := Lib.hid hO6
      obtain ⟨z0, z1, z2, z3⟩ := four_cell (show W6.heap[P]? = _ by rw [HB6.out.block _ HPL.out]; exact HR2.out)
      clear hO6 hg6 hfl hl5 ehd
      go_upto_region 7 with (fail)
      rw [← hW6]
      clear hW6 q0 q1 q2 q3 x0 f0 HO5 HB5
      go_wp2_with fail
      clear z0 z1 z2 z3 hw8
      have HHL : Hid ((Sl.head s).length = 6) := Sl.head_length s
      go_loopw [5, 33] (fun av i wr => ∃ k : Nat, k ≤ s.full.length ∧ i = .int .i64 k ∧ av = .int .i64 ((6 + 2 * k : Nat) : Int) ∧ Own w2.heap.size wr (.slice (some ⟨g, 0, none⟩) 500 500) (fillz (Sl.head s ++ Sl.sizes s k)) ∧ Below w2.heap.size w2 wr) (fun _ i _ => s.full.length - (intOf i).toNat)
      case atStart => exact ⟨0, Nat.zero_le _, rfl, rfl, by simpa [Sl.sizes] using HO6.out, HB6.out⟩
      case round =>
        obtain ⟨k, hk, rfl, rfl, hO7, hb7⟩ := hrel
        have HO7 := Lib.hid hO7
        have HB7 := Lib.hid hb7
        clear hO7 hb7
        by_cases hlt : k < s.full.length
        · have HLT := Lib.hid hlt
          have hi : (k : Int) < (s.full.length : Int) := by omega
          obtain ⟨a, ha⟩ : ∃ a, a = 6 + 2 * k := ⟨_, rfl⟩
          rw [← ha]
          have HAE := Lib.hid ha
          have HAT : Hid (6 ≤ a ∧ a ≤ 498) := by show _ ∧ _; omega
          have hsl : (Sl.head s ++ Sl.sizes s k).length = a := by rw [List.length_append, HHL.out, Sl.sizes_length, ha]
          have HSL := Lib.hid hsl
          have HL7 : Hid ((fillz (Sl.head s ++ Sl.sizes s k)).length = 500) := fillz_length (by rw [hsl]; have := HAT.out; omega)
          have hA7 := HA2.out.below HB7.out
          obtain ⟨p, cap, hpc, -, -, hform⟩ := HA2.out.data.form2
          simp only [Value.slice.injEq] at hpc
          obtain ⟨rfl, -, rfl⟩ := hpc
          have hkd : k < s.data.length := by rw [← HMY.out.len]; exact hlt
          obtain ⟨bd, od, rfl, hc⟩ := hform (by omega)
          obtain ⟨q, c, hu, -⟩ := hc k hkd
          obtain ⟨pf, capf, hpcf, -, -, hformf⟩ := FAt.form hA7.full
          simp only [Value.slice.injEq] at hpcf
          obtain ⟨rfl, -, rfl⟩ := hpcf
          obtain ⟨bf, of, rfl, hcf⟩ := hformf (by omega)
          have huf := hcf k hlt
          have HU := Lib.hid hu
          have HBD : Hid (bd < w2.heap.size) := block_lt_of_cell hu
          have hdl : (s.data.getD k []).length ≤ 500 := by have h1 := Sl.tot_ge hkd; have h2 := HMY.out.fit; unfold Sl.took at h2; omega
          have HDL : Hid ((s.data.getD k []).length ≤ 60000) := by show _ ≤ _; omega
          have hw5 := IntWalk.i64_in ((k : Int) + 1) (by omega)
          obtain ⟨m, hm⟩ : ∃ m, m = Sl.sz s k := ⟨_, rfl⟩
          have HM2 := Lib.hid hm
          have HMK : Hid (Sl.mk (Sl.fa s k) (s.data.getD k []).length = m) := by show _ = m; rw [hm]; rfl
          clear hform hc hformf hcf hdl hkd hlt hu hA7 hm ha hsl
          generalize (s.data.getD k []).length = z at *
          generalize Sl.fa s k = f at *
          go_upto_region 11 with (fail)
          refine Ord.walkF (B11F P g a k f bd od s.data.length c2 q z c m) (ByR 11 12 14 (.int .i64 (a : Int)) w2.heap.size g a (fillz (Sl.head s ++ Sl.sizes s k)) (Cod.le 2 m) wr) (fun _ _ => True)
            (by kernel_rfl) (by kernel_rfl) ?fr11 ?hfr11 (fun _ _ _ _ _ h => h) (fun xs hx => ByR.first xs (hx 14) HB7.out.size HO7.out) ?he11 ?hend11
          case hfr11 =>
            intro xs
            simp only [Ord.fill, Act.put, List.setIfInBounds_toArray, List.set_cons_zero, List.set_cons_succ]
            rfl
          case he11 =>
            refine Ord.each_cons (fun D xs wz hD hC hP hR hA K hK => ?_) ?_
            · -- 0
              clear hA
              have h14 : D 14 = false := by
                cases h : D 14
                · rfl
                · have g13 := Ord.closed_at hC 14 13 (by kernel_rfl) h
                  have g0 := Ord.closed_at hC 13 0 (by kernel_rfl) g13
                  rw [hD] at g0; cases g0
              have e14 := hR.hold h14
              simp only [e14] at hK
              go_simp
              exact hK _ _ ⟨_, rfl, trivial, hR.skip _ (by decide), rfl⟩
            refine Ord.each_cons (fun D xs wz hD hC hP hR hA K hK => ?_) ?_
            · -- 1
              clear hA
              go_simp
              exact hK _ _ ⟨_, rfl, trivial, hR.skip _ (by decide), rfl⟩
            refine Ord.each_cons (fun D xs wz hD hC hP hR hA K hK => ?_) ?_
            · -- 2
              clear hA
              have h14 : D 14 = false := by
                cases h : D 14
                · rfl
                · have g13 := Ord.closed_at hC 14 13 (by kernel_rfl) h
                  have g12 := Ord.closed_at hC 13 12 (by kernel_rfl) g13
                  have g3 := Ord.closed_at hC 12 3 (by kernel_rfl) g12
                  have g2 := Ord.closed_at hC 3 2 (by kernel_rfl) g3
                  rw [hD] at g2; cases g2
              have e14 := hR.hold h14
              simp only [e14] at hK
              go_simp
              exact hK _ _ ⟨_, rfl, trivial, hR.skip _ (by decide), rfl⟩
            refine Ord.each_cons (fun D xs wz hD hC hP hR hA K hK => ?_) ?_
            · -- 3
              have q1 := Ord.ahead_get _ hA 1 (by decide)
              simp only [B11F] at q1
              have q2 := Ord.ahead_get _ hA 2 (by decide)
              simp only [B11F] at q2
              simp only [q1, q2] at hK
              clear hA
              have k1 : (0 : Int) ≤ (a : Int) := by omega
              have k2 : (a : Int) ≤ 500 := by have := HAT.out; omega
              have k3 : a ≤ 500 := by have := HAT.out; omega
              have k4 : ¬ 500 = a := by have := HAT.out; omega
              go_simp
              exact hK _ _ ⟨_, rfl, trivial, hR.skip _ (by decide), rfl⟩
            refine Ord.each_cons (fun D xs wz hD hC hP hR hA K hK => ?_) ?_
            · -- 4
              clear hA
              go_simp
              exact hK _ _ ⟨_, rfl, trivial, hR.skip _ (by decide), rfl⟩
            refine Ord.each_cons (fun D xs wz hD hC hP hR hA K hK => ?_) ?_
            · -- 5
              clear hA
              go_simp
              exact hK _ _ ⟨_, rfl, trivial, hR.skip _ (by decide), rfl⟩
            refine Ord.each_cons (fun D xs wz hD hC hP hR hA K hK => ?_) ?_
            · -- 6
              have q5 := Ord.ahead_get _ hA 5 (by decide)
              simp only [B11F] at q5
              simp only [q5] at hK
              clear hA
              obtain ⟨x0, x1, x2, x3⟩ := four_cell (show wz.heap[P]? = _ by rw [(HB7.out.trans hR.bel).block _ HPL.out]; exact HR2.out)
              go_simp
              exact hK _ _ ⟨_, rfl, trivial, hR.skip _ (by decide), rfl⟩
            refine Ord.each_cons (fun D xs wz hD hC hP hR hA K hK => ?_) ?_
            · -- 7
              clear hA
              go_simp
              exact hK _ _ ⟨_, rfl, trivial, hR.skip _ (by decide), rfl⟩
            refine Ord.each_cons (fun D xs wz hD hC hP hR hA K hK => ?_) ?_
            · -- 8
              have q6 := Ord.ahead_get _ hA 6 (by decide)
              simp only [B11F] at q6
              have q7 := Ord.ahead_get _ hA 7 (by decide)
              simp only [B11F] at q7
              simp only [q6, q7] at hK
              clear hA
              have k1 : (0 : Int) ≤ (k : Int) := by omega
              have k2 : (k : Int) < (s.data.length : Int) := by have h1 := HLT.out; have h2 := HMY.out.len; omega
              go_simp
              exact hK _ _ ⟨_, rfl, trivial, hR.skip _ (by decide), rfl⟩
            refine Ord.each_cons (fun D xs wz hD hC hP hR hA K hK => ?_) ?_
            · -- 9
              have q8 := Ord.ahead_get _ hA 8 (by decide)
              simp only [B11F] at q8
              simp only [q8] at hK
              clear hA
              have c0 := (HB7.out.trans hR.bel).cell (p := ⟨bd, od + k, none⟩) HBD.out
              rw [HU.out] at c0
              go_simp
              exact hK _ _ ⟨_, rfl, trivial, hR.skip _ (by decide), rfl⟩
            refine Ord.each_cons (fun D xs wz hD hC hP hR hA K hK => ?_) ?_
            · -- 10
              have q4 := Ord.ahead_get _ hA 4 (by decide)
              simp only [B11F] at q4
              have q9 := Ord.ahead_get _ hA 9 (by decide)
              simp only [B11F] at q9
              simp only [q4, q9] at hK
              clear hA
              go_simp
              refine (mark_any _ _ _ _ wz HDL.out).mono ?_
              rintro e w' ⟨rfl, rfl⟩
              rw [HMK.out]
              exact hK _ _ ⟨_, rfl, trivial, hR.skip _ (by decide), rfl⟩
            refine Ord.each_cons (fun D xs wz hD hC hP hR hA K hK => ?_) ?_
            · -- 11
              have q10 := Ord.ahead_get _ hA 10 (by decide)
              simp only [B11F] at q10
              simp only [q10] at hK
              clear hA
              have h12 : D 12 = false := by
                cases h : D 12
                · rfl
                · have := Ord.closed_at hC 12 11 (by kernel_rfl) h
                  rw [hD] at this; cases this
              go_simp
              refine (Put16_any _ [] m _ (own_nil 0 _).bts (by decide)).mono ?_
              rintro e w' ⟨u, rfl, hO, hb⟩
              rw [List.nil_append] at hO
              exact hK _ _ ⟨_, rfl, trivial, hR.call (by decide) h12 hO hb, trivial⟩
            refine Ord.each_cons (fun D xs wz hD hC hP hR hA K hK => ?_) ?_
            · -- 12
              have q3 := Ord.ahead_get _ hA 3 (by decide)
              simp only [B11F] at q3
              clear hA
              have h11 : D 11 = true := hP { on := 11, ground := .data } (by simp) rfl
              refine wp_copy_Own (.tmp 41) (.tmp 49) rfl w2.heap.size g 500 500 a _ (hR.old hD) HL7.out (some ⟨g, a, none⟩) (500 - a) (500 - a) (by rw [← q3]; rfl) (xs 11) (Cod.le 2 m) rfl (hR.cl h11 hD).bts (by rw [Cod.le_length]; have := HAT.out; omega) (fun _ => rfl) (by rw [Cod.le_length]; have := HAT.out; omega) fun w' hO2 hg2 => ?_
              rw [Cod.le_length]
              exact hK _ _ ⟨_, rfl, trivial, hR.laid (by decide) HG.out hO2 hg2, rfl⟩
            refine Ord.each_cons (fun D xs wz hD hC hP hR hA K hK => ?_) ?_
            · -- 13
              have q0 := Ord.ahead_get _ hA 0 (by decide)
              simp only [B11F] at q0
              have q12 := Ord.ahead_get _ hA 12 (by decide)
              simp only [B11F] at q12
              simp only [q0, q12] at hK
              clear hA
              have k1 := IntWalk.i64_in ((a : Int) + 2) (by have := HAT.out; omega)
              go_simp
              rw [show (a : Int) + 2 = ((a + 2 : Nat) : Int) by omega]
              exact hK _ _ ⟨_, rfl, trivial, hR.skip _ (by decide), rfl⟩
            refine Ord.each_cons (fun D xs wz hD hC hP hR hA K hK => ?_) ?_
            · -- 14
              have q13 := Ord.ahead_get _ hA 13 (by decide)
              simp only [B11F] at q13
              simp only [q13] at hK
              clear hA
              go_simp
              exact hK _ _ ⟨_, rfl, trivial, hR.give (by decide), rfl⟩
            exact Ord.each_nil
          case hend11 =>
            intro D8 xs8 w8 hR8 hF8
            have hO8 := hR8.new (hF8 12 (by decide)).1
            have hb8 := HB7.out.trans hR8.bel
            have e14 := (hF8 14 (by decide)).2
            simp only [B11F] at e14
            rw [e14]
            rw [fillz_laid HSL.out.symm (by rw [HSL.out, Cod.le_length]; have := HAT.out; omega), List.append_assoc, HM2.out, ← Sl.sizes_succ] at hO8
            have HO8 := Lib.hid hO8
            have HB8 := Lib.hid hb8
            clear hO8 hb8 hR8 hF8 e14
            generalize xs8 0 = u0 at *
            generalize xs8 1 = u1 at *
            generalize xs8 2 = u2 at *
            generalize xs8 3 = u3 at *
            generalize xs8 4 = u4 at *
            generalize xs8 5 = u5 at *
            generalize xs8 6 = u6 at *
            generalize xs8 7 = u7 at *
            generalize xs8 8 = u8 at *
            generalize xs8 9 = u9 at *
            generalize xs8 10 = u10 at *
            generalize xs8 11 = u11 at *
            generalize xs8 12 = u12 at *
            generalize xs8 13 = u13 at *
            generalize xs8 14 = u14 at *
            go_wp2_with fail
            go_roundw
            case rel => exact ⟨k + 1, by have := HLT.out; omega, by go_num, by have := HAE.out; first | (rw [this]; rfl) | (congr 2; omega) | (simp; omega), HO8.out, HB8.out⟩
            case measure => have := HLT.out; simp [intOf]; omega
        · obtain rfl : k = s.full.length := by omega
          obtain ⟨q0, q1, q2, q3⟩ := four_cell (show wr.heap[P]? = _ by rw [HB7.out.block _ HPL.out]; exact HR2.out)
          go_wp2_with fail
          clear q0 q1 q2 q3
          have HNL := Lib.hid HMY.out.len
          go_loopw [5, 56] (fun av i wx => ∃ j : Nat, j ≤ s.data.length ∧ i = .int .i64 j ∧ av = .int .i64 ((6 + 2 * s.full.length + Sl.tot (s.data.take j) : Nat) : Int) ∧ Own w2.heap.size wx (.slice (some ⟨g, 0, none⟩) 500 500) (fillz (Sl.head s ++ Sl.sizes s s.full.length ++ (s.data.take j).flatten)) ∧ Below w2.heap.size w2 wx) (fun _ i _ => s.data.length - (intOf i).toNat)
          case atStart => exact ⟨0, Nat.zero_le _, rfl, rfl, by simpa using HO7.out, HB7.out⟩
          case round =>
            obtain ⟨j, hj, rfl, rfl, hO8, hb8⟩ := hrel
            have HO8 := Lib.hid hO8
            have HB8 := Lib.hid hb8
            clear hO8 hb8
            by_cases hlt : j < s.data.length
            · have HLT := Lib.hid hlt
              have hi : (j : Int) < (s.data.length : Int) := by omega
              have hA8 := HA2.out.below HB8.out
              obtain ⟨p, cap, hpc, -, -, hform⟩ := hA8.data.form2
              simp only [Value.slice.injEq] at hpc
              obtain ⟨rfl, -, rfl⟩ := hpc
              obtain ⟨bd, od, rfl, hc⟩ := hform (by omega)
              obtain ⟨q, c, hu, hbt⟩ := hc j hlt
              have hts := Sl.tot_take_succ hlt
              have htl := Sl.tot_take_le s.data (j + 1)
              have hft := HMY.out.fit
              have hln := HNL.out
              unfold Sl.took at hft
              obtain ⟨a, ha⟩ : ∃ a, a = 6 + 2 * s.full.length + Sl.tot (s.data.take j) := ⟨_, rfl⟩
              obtain ⟨d, hd⟩ : ∃ d, d = s.data.getD j [] := ⟨_, rfl⟩
              rw [← ha]
              have hsl : (Sl.head s ++ Sl.sizes s s.full.length ++ (s.data.take j).flatten).length = a := by rw [List.length_append, List.length_append, HHL.out, Sl.sizes_length, ha]; rfl
              rw [← hd] at hu hbt hts
              have had : a + d.length ≤ 500 := by omega
              have HAD := Lib.hid had
              have HNX : Hid (6 + 2 * s.full.length + Sl.tot (s.data.take (j + 1)) = a + d.length) := by show _ = _; omega
              have HSL := Lib.hid hsl
              have HL8 : Hid ((fillz (Sl.head s ++ Sl.sizes s s.full.length ++ (s.data.take j).flatten)).length = 500) := fillz_length (by rw [hsl]; omega)
              have HFT : Hid ((s.data.take j).flatten ++ d = (s.data.take (j + 1)).flatten) := by show _ = _; rw [Sl.take_succ' s.data [] hlt, ← hd]; simp
              have HBT := Lib.hid hbt
              have hw5 := IntWalk.i64_in ((j : Int) + 1) (by omega)
              have hw6 := IntWalk.i64_in ((a : Int) + (d.length : Int)) (by omega)
              have k1 : (0 : Int) ≤ (a : Int) := by omega
              have k2 : (a : Int) ≤ 500 := by omega
              have k3 : a ≤ 500 := by omega
              clear hform hc hbt hts htl hft hln hsl ha hd hA8 hlt
              obtain ⟨dp, hdp⟩ : ∃ dp : Option Addr, dp = if 500 = a then some ⟨g, 0, none⟩ else some ⟨g, a, none⟩ := ⟨_, rfl⟩
              have HDP : Hid (0 < d.length → dp = some ⟨g, a, none⟩) := fun h0 => by rw [hdp, if_neg (by have := HAD.out; omega)]
              go_upto_region 16 with (fail)
              iterate 16 go_step
              rw [← hdp]
              clear hdp
              refine wpList_plain rfl fun K hK => wp_copy_Own (.tmp 63) (.tmp 64) rfl w2.heap.size g 500 500 a _ HO8.out HL8.out dp (500 - a) (500 - a) rfl _ d rfl HBT.out (by have := HAD.out; omega) HDP.out (by have := HAD.out; omega) fun w9 hO9 hg9 => hK _ _ ?_
              clear hK
              have hb9 := below_grown HB8.out hg9 HB8.out.size HG.out
              rw [fillz_laid HSL.out.symm (by rw [HSL.out]; exact HAD.out), List.append_assoc, HFT.out] at hO9
              have HO9 := Lib.hid hO9
              have HB9 := Lib.hid hb9
              clear hO9 hb9 hg9
              go_wp2_with fail
              go_roundw
              case rel => exact ⟨j + 1, by have := HLT.out; omega, by go_num, by rw [HNX.out]; go_num, HO9.out, HB9.out⟩
              case measure => have := HLT.out; simp [intOf]; omega
            · obtain rfl : j = s.data.length := by omega
              have hO9 := HO8.out
              rw [List.take_length] at hO9
              have hff : fillz (Sl.head s ++ Sl.sizes s s.full.length ++ s.data.flatten) = fo := by
                rw [HF0.out]
                unfold fillz Sl.form
                have e1 : (Sl.head s ++ Sl.sizes s s.full.length ++ s.data.flatten).length = Sl.took s := by
                  rw [List.length_append, List.length_append, HHL.out, Sl.sizes_length, HNL.out]; rfl
                rw [e1, HNL.out]
                simp only [List.append_assoc]
              rw [hff] at hO9
              have HO9 := Lib.hid hO9
              have HB9 := Lib.hid (HB2.out.trans (HB8.out.mono HB2.out.size))
              clear hO9 hff
              go_wp2_with fail
              go_ret2
              exact ⟨_, by rw [HE.out]; rfl, HO9.out.from HB2.out.size, HB9.out⟩
  · have HE : Hid (er = 2) := by show er = 2; rw [HER.out]; exact Sl.ifP_neg hmy _ _
    have HF0 : Hid (fo = []) := by show fo = _; rw [HFO.out]; exact Sl.ifP_neg hmy _ _
    rw [Sl.may_false hmy] at HM
    clear hmy
    go_wp2_with fail
    refine HM.out.mono ?_
    rintro e w2 ⟨rfl, hb2⟩
    have HB2 := Lib.hid (HB0.out.trans (hb2.mono HB0.out.size))
    clear hb2
    go_wp2_with fail
    go_ret2
    exact ⟨_, by rw [HE.out]; rfl, by rw [HF0.out]; exact own_nil _ _, HB2.out⟩
end Go.Proofs.Ytbfpmpomcaijcaa
