/- What the document's Read of slots answers. Conditions: the value reads as bytes. -/
import Derived.Test.YtbfpmpomcaijcaaSlRRdR
namespace Go.Proofs.Ytbfpmpomcaijcaa
open Go.RowKit

theorem set4lo {w : World} {B : Nat} {a b c d x : Value} {T : TypeId} (h : w.heap[B]? = some (.cells #[a, b, c, d] T (0, 0))) :
    (w.setCell ⟨B, 0, none⟩ x).heap[B]? = some (.cells #[x, b, c, d] T (0, 0)) ∧ (w.setCell ⟨B, 1, none⟩ x).heap[B]? = some (.cells #[a, x, c, d] T (0, 0)) := by
  have hlt := lt_of_block h
  have h' : w.heap[B] = .cells #[a, b, c, d] T (0, 0) := by simpa [Array.getElem?_eq_getElem hlt] using h
  constructor <;>
  · show (w.heap.modify B _)[B]? = _
    rw [Array.getElem?_eq_getElem (by simpa using hlt), Array.getElem_modify_self, h']
    rfl
def Sl.mkl (b : List Nat) (k : Nat) : List Int := (List.range k).map fun i => (Sl.mkk b i : Int)
theorem Sl.mkl_succ (b : List Nat) (k : Nat) : Sl.mkl b (k + 1) = Sl.mkl b k ++ [(Sl.mkk b k : Int)] := by unfold Sl.mkl; rw [List.range_succ, List.map_append]; rfl
theorem Sl.mkl_length (b : List Nat) (k : Nat) : (Sl.mkl b k).length = k := by simp [Sl.mkl]
theorem Sl.mkl_getD {b : List Nat} {k i : Nat} (h : i < k) : (Sl.mkl b k).getD i 0 = (Sl.mkk b i : Int) := by unfold Sl.mkl; simp [List.getD_eq_getElem?_getD, h]

/-- The marks are read: what stands. -/
structure MrkD (w0 : World) (R B X : Nat) (kv nv sv : Value) (b : List Nat) (k : Nat) (w : World) : Prop where
  rd : Rd 69 (fun j => j < w0.heap.size) w B (b.drop (6 + 2 * k)) (Sl.ste k)
  ans : w.heap[R]? = some (.cells #[.int .u8 0, .int .u32 0, nilS, nilS] 26 (0, 0))
  blk : w.heap[X]? = some (.cells #[kv, nv, nilS, nilS] 26 (0, 0))
  own : Ints.Own (X + 1) w sv (Sl.mkl b k)
  bel : Below w0.heap.size w0 w
  hR : w0.heap.size ≤ R
  hB : R < B
  hX : B < X
/-- What the operations left. -/
def RF1 (B : Nat) (i : Nat) (v : Value) (_ : World) : Prop :=
  match i with
  | 0 => v = .pointer (some ⟨B, 1, none⟩)
  | 1 => v = .int .i64 4
  | 2 => v = .bool true
  | 3 => v = .bool true
  | 4 => v = undef
  | 5 => v = undef
  | 6 => v = undef
  | 7 => v = .bool true
  | 8 => v = .bool true
  | 9 => v = undef
  | 10 => v = undef
  | 11 => v = undef
  | 12 => v = undef
  | 13 => v = undef
  | 14 => v = undef
  | 15 => v = .bool true
  | _ => True
def RF2 (B : Nat) (sv : Value) (i : Nat) (v : Value) (_ : World) : Prop :=
  match i with
  | 0 => v = .pointer (some ⟨B, 1, none⟩)
  | 1 => v = .int .i64 0
  | 2 => v = .bool false
  | 3 => v = .bool false
  | 4 => v = sv
  | 5 => v = .bool false
  | 6 => v = .bool true
  | 7 => v = .bool true
  | 8 => v = .bool true
  | 9 => v = undef
  | 10 => v = undef
  | 11 => v = undef
  | 12 => v = undef
  | 13 => v = undef
  | 14 => v = undef
  | 15 => v = .bool true
  | _ => True
def RF3 (B : Nat) (sv bv : Value) (fo : List Nat) (S1 S2 : ByteArray) (x : Bool) (i : Nat) (v : Value) (w : World) : Prop :=
  match i with
  | 0 => v = .pointer (some ⟨B, 1, none⟩)
  | 1 => v = .int .i64 0
  | 2 => v = .bool false
  | 3 => v = .bool false
  | 4 => v = sv
  | 5 => v = .bool true
  | 6 => v = .bool false
  | 7 => v = .bool false
  | 8 => v = .bool false
  | 9 => v = sv
  | 10 => Bts w v fo
  | 11 => v = .string S1
  | 12 => v = bv
  | 13 => v = .string S2
  | 14 => v = .bool x
  | 15 => v = .bool x
  | _ => True
def R19F (X gs j : Nat) (fv zv : Value) (mv : Nat) (x : Bool) (i : Nat) (v : Value) (_ : World) : Prop :=
  match i with
  | 0 => v = .pointer (some ⟨X, 2, none⟩)
  | 1 => v = fv
  | 2 => v = zv
  | 3 => v = .int .i64 (j : Int)
  | 4 => v = .pointer (some ⟨gs, j, none⟩)
  | 5 => v = .int .i64 (mv : Int)
  | 6 => v = .bool x
  | 9 => v = .pointer (some ⟨X, 2, none⟩)
  | _ => True
def R20F (B X z : Nat) (dv rv tv : Value) (i : Nat) (v : Value) (_ : World) : Prop :=
  match i with
  | 0 => v = .pointer (some ⟨X, 3, none⟩)
  | 1 => v = dv
  | 3 => v = .pointer (some ⟨B, 0, none⟩)
  | 4 => v = rv
  | 5 => v = .int .i64 (z : Int)
  | 6 => v = tv
  | 10 => v = .pointer (some ⟨X, 3, none⟩)
  | _ => True
theorem rf3_later {B : Nat} {sv bv : Value} {fo : List Nat} {S1 S2 : ByteArray} {x : Bool} (i : Nat) (v : Value) (w w' : World) (hb : Below w.heap.size w w') (h : RF3 B sv bv fo S1 S2 x i v w) : RF3 B sv bv fo S1 S2 x i v w' := by
  unfold RF3 at h ⊢
  split at h
  all_goals first | exact h | exact Bts.below h hb | trivial
/-- The texts are cut out: what stands. -/
structure CutD (w0 : World) (R B X E : Nat) (kv nv rv sv fv dv : Value) (vs : List Value) (ms : List Int) (l : List Bool) (ls : List (List Nat)) (w : World) : Prop where
  rdr : w.heap[B]? = some (.cells #[rv, .int .i64 (E : Int)] 69 (0, 0))
  ans : w.heap[R]? = some (.cells #[.int .u8 0, .int .u32 0, nilS, nilS] 26 (0, 0))
  blk : w.heap[X]? = some (.cells #[kv, nv, fv, dv] 26 (0, 0))
  full : Bo.Own X w fv (FB l)
  dat : DOwn X w dv vs ls
  siz : Ints.Own X w sv ms
  bel : Below w0.heap.size w0 w
  hR : w0.heap.size ≤ R
  hB : R < B
  hX : B < X
theorem CutD.move {w0 w : World} {R B X E : Nat} {kv nv rv rv' sv fv dv : Value} {vs : List Value} {ms : List Int} {l : List Bool} {ls : List (List Nat)} (h : CutD w0 R B X E kv nv rv sv fv dv vs ms l ls w) : CutD w0 R B X E kv nv rv' sv fv dv vs ms l ls (w.setCell ⟨B, 0, none⟩ rv') := by
  have hg := grownBy_setCell w B 0 rv'
  have a1 := h.hR
  have a2 := h.hB
  have a3 := h.hX
  refine ⟨setCell2_0 h.rdr, ?_, ?_, h.full.grown hg (row_ne_blk h.full.own h.rdr (by decide)), h.dat.grown hg (row_ne_blk h.dat.own.own h.rdr (by decide)) (fun i hi => row_ne_blk (h.dat.each i hi).own h.rdr (by decide)), h.siz.grown hg (row_ne_blk h.siz.own h.rdr (by decide)), below_grown h.bel hg h.bel.size (by omega), a1, a2, a3⟩
  · rw [hg.block R (lt_of_block h.ans) (fun e => by simp only [Option.some.injEq] at e; omega)]; exact h.ans
  · rw [hg.block X (lt_of_block h.blk) (fun e => by simp only [Option.some.injEq] at e; omega)]; exact h.blk
theorem bo_slice3' {base : Nat} {w : World} {v : Value} {l : List Bool} (h : Bo.Own base w v (FB l)) : ∃ p c, v = .slice p (FB l).length c := by
  obtain ⟨p, c, e, -⟩ := h.bts.form
  exact ⟨p, c, e⟩
theorem form_small {s : Sl.S} {w : World} {fv dv : Value} (hk : s.kind < 256) (hm : Sl.May s) (h : SlAt w fv dv s) : ∀ x ∈ Sl.form s, x < 256 := by
  intro x hx
  unfold Sl.form Sl.head at hx
  simp only [List.mem_append, List.mem_cons] at hx
  rcases hx with ((rfl | hx) | hx) | hx | hx | hx
  · exact hk
  · exact Cod.le_lt _ _ x hx
  · have h1 := hm.most; have h2 := hm.len; have h3 : x = s.data.length := by simpa using hx
    omega
  · unfold Sl.sizes at hx
    obtain ⟨i, -, hi⟩ := List.mem_flatMap.1 hx
    exact Cod.le_lt _ _ x hi
  · obtain ⟨d, hd, hxd⟩ := List.mem_flatten.1 hx
    obtain ⟨i, hi, rfl⟩ := List.getElem_of_mem hd
    obtain ⟨vs, -, -, h3⟩ := h.data.form
    have h4 := h3 i hi
    have e : s.data.getD i [] = s.data[i] := by simp [List.getD_eq_getElem?_getD, hi]
    rw [e] at h4
    exact h4.small x hxd
  · rw [(List.mem_replicate.1 hx).2]; decide
theorem okk_mark {x : Nat} (h : x < 65536) : Ints.Okk (x : Int) := by
  have e1 : IntKind.i64.min = -9223372036854775808 := rfl
  have e2 : IntKind.i64.max = 9223372036854775807 := rfl
  unfold Ints.Okk
  simp only [Lit.wf, Bool.and_eq_true, decide_eq_true_eq]
  omega

set_option maxHeartbeats 6400000 in
set_option maxRecDepth 20000 in
theorem refRead_any (m : Value) (b : List Nat) (w : World) (hB : Bts w m b) :
    Calls Try.prog 18 #[m] w fun e w' => ∃ fv' dv', e = .returned (.tuple #[SlV (Sl.readR b).1.kind (Sl.readR b).1.next fv' dv', .int .i64 ((Sl.readR b).2 : Int)]) ∧ SlAt w' fv' dv' (Sl.readR b).1 ∧ Below w.heap.size w w' := by
  have HBT := Lib.hid hB
  obtain ⟨pm, cm, rfl, hcm, -, hpm⟩ := hB.form
  have HPM := Lib.hid hpm
  have HCM := Lib.hid hcm
  obtain ⟨rr, hrr⟩ : ∃ rr, rr = Sl.readR b := ⟨_, rfl⟩
  rw [← hrr]
  have HRR := Lib.hid hrr
  obtain ⟨V, hV⟩ : ∃ V, V = w.alloc (.cells #[.int .u8 0, .int .u32 0, nilS, nilS] 26) := ⟨_, rfl⟩
  have hbv : Below w.heap.size w V := by rw [hV]; exact below_new _ _
  have hrv : V.heap[w.heap.size]? = some (.cells #[.int .u8 0, .int .u32 0, nilS, nilS] 26 (0, 0)) := by rw [hV]; exact heap_alloc_last _ _
  obtain ⟨R, hR⟩ : ∃ R, R = w.heap.size := ⟨_, rfl⟩
  rw [← hR] at hrv
  have HRE : Hid (w.heap.size ≤ R) := show w.heap.size ≤ R by omega
  have HRV := Lib.hid hrv
  have HBV := Lib.hid hbv
  unfold nilS at hV
  clear hB hcm hpm hrr hbv hrv
  go_enter Try.func18, Try.ntmps18
  go_upto_region 1 with (fail)
  rw [← hV, ← hR]
  clear hV hR
  by_cases h500 : b.length = 500
  · have hi1 : ((b.length : Int) != 500) = false := by rw [h500]; rfl
    have H500 := Lib.hid h500
    have HSMB := Lib.hid HBT.out.small
    obtain ⟨W1, hW1⟩ : ∃ W1, W1 = V.alloc (.cells #[.slice pm b.length cm, .int .i64 0] 69) := ⟨_, rfl⟩
    have hb1 : Below V.heap.size V W1 := by rw [hW1]; exact below_new _ _
    have hr1 : W1.heap[V.heap.size]? = some (.cells #[.slice pm b.length cm, .int .i64 0] 69 (0, 0)) := by rw [hW1]; exact heap_alloc_last _ _
    obtain ⟨B, hBB⟩ : ∃ B, B = V.heap.size := ⟨_, rfl⟩
    rw [← hBB] at hr1
    obtain ⟨W2, hW2⟩ : ∃ W2, W2 = W1.alloc (.cells #[.int .u8 0, .int .u32 0, .slice none 0 0, .slice none 0 0] 26) := ⟨_, rfl⟩
    have hb2 : Below W1.heap.size W1 W2 := by rw [hW2]; exact below_new _ _
    have hx2 : W2.heap[W1.heap.size]? = some (.cells #[.int .u8 0, .int .u32 0, nilS, nilS] 26 (0, 0)) := by rw [hW2]; exact heap_alloc_last _ _
    obtain ⟨X, hX⟩ : ∃ X, X = W1.heap.size := ⟨_, rfl⟩
    have hX1 : X = B + 1 := by rw [hX, hW1, hBB]; simp
    rw [← hX] at hx2
    have hr2 := hb2.block B (lt_of_block hr1)
    rw [hr1] at hr2
    have ha2 := (hb1.trans (hb2.mono hb1.size)).block R (lt_of_block HRV.out)
    rw [HRV.out] at ha2
    have HRB : Hid (R < B) := by show R < B; rw [hBB]; exact lt_of_block HRV.out
    have HBX : Hid (B < X) := by show B < X; rw [hX]; exact lt_of_block hr1
    have HB2 := Lib.hid (HBV.out.trans ((hb1.trans (hb2.mono hb1.size)).mono HBV.out.size))
    have HX2 := Lib.hid hx2
    have HA2 := Lib.hid ha2
    have HRD2 : Hid (Rd 69 (fun j => j < w.heap.size) W2 B b 0) := ⟨_, hr2, HBT.out.below HB2.out, (fun hh => by have h1 := HRE.out; have h2 := HRB.out; omega), fun h0 g hg => HBT.out.block_lt h0 g hg⟩
    clear h500 hb1 hr1 hb2 hx2 hr2 ha2
    go_upto_region 5 with (fail)
    rw [← hW1, ← hW2, ← hBB, ← hX1]
    clear hW1 hW2 hBB hX hX1
    obtain ⟨kd, hkd⟩ : ∃ kd, kd = Sl.kd b := ⟨_, rfl⟩
    obtain ⟨nx, hnx⟩ : ∃ nx, nx = Sl.nx b := ⟨_, rfl⟩
    obtain ⟨n, hnn⟩ : ∃ n, n = Sl.cn b := ⟨_, rfl⟩
    have HKD := Lib.hid hkd
    have HNX := Lib.hid hnx
    have HNN := Lib.hid hnn
    have hkl : kd < 256 := by rw [hkd]; exact Sl.kd_lt HSMB.out
    have hnl : nx < 4294967296 := by rw [hnx]; exact Sl.nx_lt HSMB.out
    have hcl : n < 256 := by rw [hnn]; exact Sl.cn_lt HSMB.out
    have hwk : IntKind.u8.wrap (kd : Int) = (kd : Int) := IntWalk.u8_in _ (by omega)
    have hwn : IntKind.u32.wrap (nx : Int) = (nx : Int) := IntWalk.u32_in _ (by omega)
    have hwc : IntKind.i64.wrap (n : Int) = (n : Int) := IntWalk.i64_in _ (by omega)
    clear hkd hnx hnn
    go_wp2_with fail
    have hnu := refNum_any _ B 0 1 b W2 HRD2.out (by decide) (by decide)
    rw [Sl.rd_kind H500.out, ← HKD.out] at hnu
    refine hnu.mono ?_
    rintro e w3 ⟨rfl, hr3, hg3⟩
    have hx3 := hg3.block X (lt_of_block HX2.out) (fun e => by simp only [Option.some.injEq] at e; have := HBX.out; omega)
    rw [HX2.out] at hx3
    have ha3 := hg3.block R (lt_of_block HA2.out) (fun e => by simp only [Option.some.injEq] at e; have := HRB.out; omega)
    rw [HA2.out] at ha3
    have hb3 := below_grown HB2.out hg3 HB2.out.size (by have h1 := HRE.out; have h2 := HRB.out; omega)
    obtain ⟨x0, x1, x2, x3⟩ := four_cell hx3
    have f0 := four_free hx3 0
    have hg4 := grownBy_setCell w3 X 0 (.int .u8 (kd : Int))
    have hx4 := (set4lo (x := .int .u8 (kd : Int)) hx3).1
    have hr4 := hr3.grown hg4 (fun g e => by simp only [Option.some.injEq] at e; subst e; exact ⟨fun hh => by have h1 := HRE.out; have h2 := HRB.out; have h3 := HBX.out; omega, by have h3 := HBX.out; omega⟩)
    have ha4 := hg4.block R (lt_of_block ha3) (fun e => by simp only [Option.some.injEq] at e; have h2 := HRB.out; have h3 := HBX.out; omega)
    rw [ha3] at ha4
    have hb4 := below_grown hb3 hg4 hb3.size (by have h1 := HRE.out; have h2 := HRB.out; have h3 := HBX.out; omega)
    obtain ⟨W4, hW4⟩ : ∃ W4, W4 = w3.setCell ⟨X, 0, none⟩ (.int .u8 (kd : Int)) := ⟨_, rfl⟩
    rw [← hW4] at hx4 hr4 ha4 hb4
    have HX4 := Lib.hid hx4
    have HR4 := Lib.hid hr4
    have HA4 := Lib.hid ha4
    have HB4 := Lib.hid hb4
    clear hr3 hg3 hx3 ha3 hb3 hg4 hx4 hr4 ha4 hb4 hnu
    go_upto_region 6 with (fail)
    rw [← hW4]
    clear hW4 x0 x1 x2 x3 f0
    go_wp2_with fail
    have hnu := refNum_any _ B 0 4 _ W4 HR4.out (by decide) (by decide)
    rw [Sl.rd_next H500.out, ← HNX.out] at hnu
    refine hnu.mono ?_
    rintro e w5 ⟨rfl, hr3, hg3⟩
    have hx3 := hg3.block X (lt_of_block HX4.out) (fun e => by simp only [Option.some.injEq] at e; have := HBX.out; omega)
    rw [HX4.out] at hx3
    have ha3 := hg3.block R (lt_of_block HA4.out) (fun e => by simp only [Option.some.injEq] at e; have := HRB.out; omega)
    rw [HA4.out] at ha3
    have hb3 := below_grown HB4.out hg3 HB4.out.size (by have h1 := HRE.out; have h2 := HRB.out; omega)
    obtain ⟨x0, x1, x2, x3⟩ := four_cell hx3
    have f1 := four_free hx3 1
    have hg4 := grownBy_setCell w5 X 1 (.int .u32 (nx : Int))
    have hx4 := (set4lo (x := .int .u32 (nx : Int)) hx3).2
    have hr4 := hr3.grown hg4 (fun g e => by simp only [Option.some.injEq] at e; subst e; exact ⟨fun hh => by have h1 := HRE.out; have h2 := HRB.out; have h3 := HBX.out; omega, by have h3 := HBX.out; omega⟩)
    have ha4 := hg4.block R (lt_of_block ha3) (fun e => by simp only [Option.some.injEq] at e; have h2 := HRB.out; have h3 := HBX.out; omega)
    rw [ha3] at ha4
    have hb4 := below_grown hb3 hg4 hb3.size (by have h1 := HRE.out; have h2 := HRB.out; have h3 := HBX.out; omega)
    obtain ⟨W6, hW6⟩ : ∃ W6, W6 = w5.setCell ⟨X, 1, none⟩ (.int .u32 (nx : Int)) := ⟨_, rfl⟩
    rw [← hW6] at hx4 hr4 ha4 hb4
    have HX6 := Lib.hid hx4
    have HR6 := Lib.hid hr4
    have HA6 := Lib.hid ha4
    have HB6 := Lib.hid hb4
    clear hr3 hg3 hx3 ha3 hb3 hg4 hx4 hr4 ha4 hb4 hnu
    go_upto_region 7 with (fail)
    rw [← hW6]
    clear hW6 x0 x1 x2 x3 f1
    go_wp2_with fail
    have hnu := refNum_any _ B 0 1 _ W6 HR6.out (by decide) (by decide)
    rw [Sl.rd_count H500.out, ← HNN.out] at hnu
    refine hnu.mono ?_
    rintro e w7 ⟨rfl, hr3, hg3⟩
    have hx3 := hg3.block X (lt_of_block HX6.out) (fun e => by simp only [Option.some.injEq] at e; have := HBX.out; omega)
    rw [HX6.out] at hx3
    have ha3 := hg3.block R (lt_of_block HA6.out) (fun e => by simp only [Option.some.injEq] at e; have := HRB.out; omega)
    rw [HA6.out] at ha3
    have hb3 := below_grown HB6.out hg3 HB6.out.size (by have h1 := HRE.out; have h2 := HRB.out; omega)
    have HM7 : Hid (MrkD w R B X (.int .u8 (kd : Int)) (.int .u32 (nx : Int)) nilS b 0 w7) := ⟨hr3, ha3, hx3, Ints.own_nil _ _, hb3, HRE.out, HRB.out, HBX.out⟩
    have HNL : Hid (n < 256) := hcl
    clear hr3 hg3 hx3 ha3 hb3 hnu hkl hnl hcl HX6 HR6 HA6 HB6 HX4 HR4 HA4 HB4
    go_wp2_with fail
    clear hwk hwn hwc
    go_loopw [7, 8] (fun sv iv wr => ∃ k : Nat, k ≤ n ∧ k ≤ 248 ∧ iv = .int .i64 k ∧ MrkD w R B X (.int .u8 (kd : Int)) (.int .u32 (nx : Int)) sv b k wr) (fun _ iv _ => n - (intOf iv).toNat)
    case atStart => exact ⟨0, Nat.zero_le _, by decide, rfl, HM7.out⟩
    case round =>
      rename_i KK hKK
      have TAIL : ∀ {x7 x25 x26 x27 x28 x29 x30 x31 x32 x33 x34 x35 x36 x37 x38 x39 : Value} (k : Nat) (wr : World), k ≤ n → (n ≤ k ∨ k = 248) → k ≤ 248 → MrkD w R B X (.int .u8 (kd : Int)) (.int .u32 (nx : Int)) x7 b k wr → KK { tmps := #[.slice pm b.length cm, undef, .pointer (some ⟨R, 0, none⟩), .int .i64 0, .pointer (some ⟨B, 0, none⟩), .pointer (some ⟨X, 0, none⟩), .int .i64 (n : Int), x7, .int .i64 (k : Int), undef, undef, .slice pm b.length cm, .int .i64 (b.length : Int), .bool false, undef, .slice pm b.length cm, .agg #[.slice pm b.length cm, .int .i64 0], .int .u64 (kd : Int), .int .u8 (kd : Int), .pointer (some ⟨X, 0, none⟩), .int .u64 (nx : Int), .int .u32 (nx : Int), .pointer (some ⟨X, 1, none⟩), .int .u64 (n : Int), .int .i64 (n : Int), x25, x26, x27, x28, x29, x30, x31, x32, x33, x34, x35, x36, x37, x38, x39, undef, undef, undef, undef, undef, undef, undef, undef, undef, undef, undef, undef, undef, undef, undef, undef, undef, undef, undef, undef, undef, undef, undef, undef, undef, undef, undef, undef, undef, undef, undef, undef, undef, undef, undef, undef, undef, undef, undef, undef, undef, undef, undef, undef, undef, undef, undef, undef, undef, undef, undef, undef, undef, undef, undef, undef, undef, undef, undef, undef, undef, undef], defers := [] } wr := by
        intro x7 x25 x26 x27 x28 x29 x30 x31 x32 x33 x34 x35 x36 x37 x38 x39 k wr hk hor hk8 hm
        clear hrel HM7
        have HM := Lib.hid hm
        have HOR := Lib.hid hor
        have HK8 := Lib.hid hk8
        clear hm hor hk8
        apply hKK
        clear hKK
        obtain ⟨r0v, hh0, hbt0, -, hlo0⟩ := HM.out.rd
        have hb0 := bts_back hbt0 HM.out.bel hlo0
        obtain ⟨R0, hR0⟩ : ∃ R0, R0 = b.drop (6 + 2 * k) := ⟨_, rfl⟩
        rw [← hR0] at hb0
        obtain ⟨ee, hee⟩ : ∃ ee, ee = Sl.ste k := ⟨_, rfl⟩
        rw [← hee] at hh0
        have HEE := Lib.hid hee
        have HR0 := Lib.hid hR0
        have hRl : R0.length ≤ 494 := by rw [hR0, List.length_drop, H500.out]; omega
        have HRL := Lib.hid hRl
        obtain ⟨p0, cap0, rfl, -, -, -⟩ := hb0.form
        obtain ⟨psz, csz, hsz, -, -, hszc⟩ := HM.out.own.bts.form
        rw [Sl.mkl_length] at hsz hszc
        subst hsz
        have HC0 : Hid (CutD w R B X ee (.int .u8 (kd : Int)) (.int .u32 (nx : Int)) (.slice p0 R0.length cap0) (.slice psz k csz) nilS nilS [] (Sl.mkl b k) (Sl.fl b 0) (Sl.dtx R0 b 0) wr) := ⟨hh0, HM.out.ans, HM.out.blk, Bo.own_nil _ _, down_nil _ _, HM.out.own.from (by omega), HM.out.bel, HRE.out, HRB.out, HBX.out⟩
        have HB0' := Lib.hid hb0
        clear hh0 hbt0 hlo0 hb0 hR0 hee hRl hszc
        go_wp2_with fail
        go_loopw [9] (fun iv wq => ∃ (j : Nat) (p : Option Addr) (L cc : Nat) (fv dv : Value) (vs : List Value), j ≤ k ∧ iv = .int .i64 j ∧ L = (R0.drop (Sl.off b j)).length ∧ Sl.off b j ≤ R0.length ∧ Bts w (.slice p L cc) (R0.drop (Sl.off b j)) ∧ CutD w R B X ee (.int .u8 (kd : Int)) (.int .u32 (nx : Int)) (.slice p L cc) (.slice psz k csz) fv dv vs (Sl.mkl b k) (Sl.fl b j) (Sl.dtx R0 b j) wq) (fun iv _ => k - (intOf iv).toNat)
        case atStart => exact ⟨0, p0, R0.length, cap0, nilS, nilS, [], Nat.zero_le _, rfl, rfl, Nat.zero_le _, HB0'.out, HC0.out⟩
        case round =>
          clear HC0 HB0' HM
          obtain ⟨j, p, L, cc, fv, dv, vs, hjk, rfl, hL, hof, hbt, hcut⟩ := hrel
          have HBT2 := Lib.hid hbt
          have HLL := Lib.hid hL
          have HOF := Lib.hid hof
          have HC := Lib.hid hcut
          clear hL hof hbt hcut
          by_cases hlt : j < k
          · have HLT := Lib.hid hlt
            have hi : (j : Int) < (k : Int) := by omega
            have hw5 := IntWalk.i64_in ((j : Int) + 1) (by have := HK8.out; omega)
            obtain ⟨p', cap', hsz, -, -, hszc⟩ := HC.out.siz.bts.form
            rw [Sl.mkl_length] at hsz hszc
            simp only [Value.slice.injEq] at hsz
            obtain ⟨rfl, -, rfl⟩ := hsz
            obtain ⟨gs, os, rfl, hcs⟩ := hszc (by omega)
            have hmc := hcs j hlt
            have hos : os = 0 := by
              rcases HC.out.siz.own.2 with ⟨h1, _⟩ | ⟨g', c', cur, h1, _⟩
              · cases h1
              · simp only [Value.slice.injEq, Option.some.injEq, Addr.mk.injEq] at h1
                exact h1.1.2.1
            subst hos
            rw [Sl.mkl_getD hlt, Nat.zero_add] at hmc
            have hmk : Sl.mkk b j < 65536 := Sl.mkk_lt HSMB.out j
            obtain ⟨mv, hmv⟩ : ∃ mv, mv = Sl.mkk b j := ⟨_, rfl⟩
            obtain ⟨z, hz⟩ : ∃ z, z = Sl.szz b j := ⟨_, rfl⟩
            have hzm : z = mv - 1 := by rw [hz, hmv]; rfl
            obtain ⟨x, hx⟩ : ∃ x, x = decide (0 < Sl.mkk b j) := ⟨_, rfl⟩
            have HMVE := Lib.hid hmv
            have HXX : Hid (decide (0 < mv) = x) := by
              show _ = x
              rw [hx, ← hmv]
            have HXE := Lib.hid hx
            have HZE := Lib.hid hz
            rw [← hmv] at hmc hmk
            have hw6 := IntWalk.i64_in ((mv : Int) - 1) (by omega)
            have hmx : max ((mv : Int) - 1) 0 = (z : Int) := by omega
            have HMC := Lib.hid hmc
            have hcB : wr.cell? ⟨B, 0, none⟩ = some (.slice p L cc) := cell2_0 HC.out.rdr
            clear hmv hz hx hlt hmk hzm hcs hszc
            by_cases hfit : z ≤ L
            · have hfi : ¬ (L : Int) < (z : Int) := by omega
              have HFIT := Lib.hid hfit
              obtain ⟨pz, cz, ez, hcz, -, -⟩ := HBT2.out.form
              simp only [Value.slice.injEq] at ez
              obtain ⟨-, -, rfl⟩ := ez
              have HZC : Hid (z ≤ cc) := by show z ≤ cc; have := HLL.out; omega
              have hrs2 := HBT2.out
              have hle := HLL.out
              rw [hle] at hrs2
              have htx := hrs2.take z (by rw [← hle]; exact hfit)
              obtain ⟨tt, htt⟩ : ∃ tt, tt = (R0.drop (Sl.off b j)).take (Sl.szz b j) := ⟨_, rfl⟩
              have HTT := Lib.hid htt
              have HTX : Hid (Bts w (.slice p z cc) tt) := by show Bts _ _ _; rw [htt, ← HZE.out]; exact htx
              have HTXL : Hid (tt.length ≤ 1000) := by show _ ≤ _; rw [htt, List.length_take, List.length_drop]; have := HRL.out; omega
              clear htt
              clear hcz hrs2 hle htx hfit
              go_upto_region 19 with (fail)
              clear hcB
              have HWX : Hid (w.heap.size ≤ X) := by show _ ≤ X; have h1 := HRE.out; have h2 := HRB.out; have h3 := HBX.out; omega
              have HBG : Hid (X ≤ wr.heap.size) := by show X ≤ _; have := lt_of_block HC.out.blk; omega
              have HPN : Hid (p = none → z = 0 ∧ cc = 0) := fun e => by
                obtain ⟨p', c', e2, h1, h2, h3⟩ := HBT2.out.form
                simp only [Value.slice.injEq] at e2
                obtain ⟨rfl, -, rfl⟩ := e2
                have h4 := h2 e
                have h5 := HZC.out
                exact ⟨by omega, h4⟩
              refine Ord.walk (R19F X gs j fv (.slice (some ⟨gs, 0, none⟩) k csz) mv x) (B8R X X (.int .u8 (kd : Int)) (.int .u32 (nx : Int)) fv dv (Sl.fl b j) x vs (Sl.dtx R0 b j) (.slice (some ⟨gs, 0, none⟩) k csz) (Sl.mkl b k) wr) (fun _ _ => True)
                (by kernel_rfl) (by kernel_rfl) ?fr19 ?hfr19 (fun _ _ _ _ _ h => h) (fun xs => B8R.first xs HBG.out (Nat.le_refl _) HC.out.dat HC.out.siz HC.out.blk HC.out.full) ?he19 ?hend19
              case hfr19 =>
                intro xs
                simp only [Ord.fill, Act.put, List.setIfInBounds_toArray, List.set_cons_zero, List.set_cons_succ]
                rfl
              case he19 =>
                refine Ord.each_cons (fun D xs wz hD hC hP hR hA K hK => ?_) ?_
                · -- 0
                  clear hA
                  go_simp
                  exact hK _ _ ⟨_, rfl, trivial, hR.skip _ (by decide), rfl⟩
                refine Ord.each_cons (fun D xs wz hD hC hP hR hA K hK => ?_) ?_
                · -- 1
                  have q0 := Ord.ahead_get _ hA 0 (by decide)
                  simp only [R19F] at q0
                  simp only [q0] at hK
                  clear hA
                  have h10 : D 10 = false := by
                    cases h : D 10
                    · rfl
                    · have := Ord.closed_at hC 10 1 (by kernel_rfl) h
                      rw [hD] at this; cases this
                  obtain ⟨x0, x1, x2, x3⟩ := four_cell hR.blk
                  rw [h10] at x2
                  go_simp
                  exact hK _ _ ⟨_, rfl, trivial, hR.skip _ (by decide), rfl⟩
                refine Ord.each_cons (fun D xs wz hD hC hP hR hA K hK => ?_) ?_
                · -- 2
                  clear hA
                  go_simp
                  exact hK _ _ ⟨_, rfl, trivial, hR.skip _ (by decide), rfl⟩
                refine Ord.each_cons (fun D xs wz hD hC hP hR hA K hK => ?_) ?_
                · -- 3
                  clear hA
                  go_simp
                  exact hK _ _ ⟨_, rfl, trivial, hR.skip _ (by decide), rfl⟩
                refine Ord.each_cons (fun D xs wz hD hC hP hR hA K hK => ?_) ?_
                · -- 4
                  have q2 := Ord.ahead_get _ hA 2 (by decide)
                  simp only [R19F] at q2
                  have q3 := Ord.ahead_get _ hA 3 (by decide)
                  simp only [R19F] at q3
                  simp only [q2, q3] at hK
                  clear hA
                  have k1 : (0 : Int) ≤ (j : Int) := by omega
                  have k2 : (j : Int) < (k : Int) := by have := HLT.out; omega
                  have k3 : 0 + j = j := Nat.zero_add j
                  go_simp
                  exact hK _ _ ⟨_, rfl, trivial, hR.skip _ (by decide), rfl⟩
                refine Ord.each_cons (fun D xs wz hD hC hP hR hA K hK => ?_) ?_
                · -- 5
                  have q4 := Ord.ahead_get _ hA 4 (by decide)
                  simp only [R19F] at q4
                  simp only [q4] at hK
                  clear hA
                  have c0 := hR.siz.cellAt (Sl.mkl_length b k) j HLT.out
                  rw [Sl.mkl_getD HLT.out, ← HMVE.out] at c0
                  obtain ⟨c0, -⟩ := c0
                  go_simp
                  exact hK _ _ ⟨_, rfl, trivial, hR.skip _ (by decide), rfl⟩
                refine Ord.each_cons (fun D xs wz hD hC hP hR hA K hK => ?_) ?_
                · -- 6
                  have q5 := Ord.ahead_get _ hA 5 (by decide)
                  simp only [R19F] at q5
                  simp only [q5] at hK
                  clear hA
                  have hxx := HXX.out
                  go_simp
                  try rw [hxx]
                  exact hK _ _ ⟨_, rfl, trivial, hR.skip _ (by decide), rfl⟩
                refine Ord.each_cons (fun D xs wz hD hC hP hR hA K hK => ?_) ?_
                · -- 7
                  have q6 := Ord.ahead_get _ hA 6 (by decide)
                  simp only [R19F] at q6
                  simp only [q6] at hK
                  clear hA
                  have hst := hR.op7 (u := .slice (some ⟨wz.heap.size, 0, none⟩) 1 1) rfl
                  go_simp
                  exact hK _ _ ⟨_, rfl, trivial, hst, trivial⟩
                refine Ord.each_cons (fun D xs wz hD hC hP hR hA K hK => ?_) ?_
                · -- 8
                  have q1 := Ord.ahead_get _ hA 1 (by decide)
                  simp only [R19F] at q1
                  clear hA
                  have h10 : D 10 = false := by
                    cases h : D 10
                    · rfl
                    · have := Ord.closed_at hC 10 8 (by kernel_rfl) h
                      rw [hD] at this; cases this
                  have h7 : D 7 = true := hP { on := 7, ground := .data } (by simp) rfl
                  refine Bo.wp_append_Own (.tmp 59) (.tmp 65) rfl X fv (FB (Sl.fl b j)) (by rw [← q1]; rfl) (hR.full0 hD) (xs 7) [.bool x] rfl (hR.a7 h7 hD).bts (by rw [fb_length, Sl.fl_length]; have h1 := HLT.out; have h2 := HK8.out; simp; omega) (Nat.le_trans hR.big hR.bel.size) ?_
                  intro u w' hO2 hb2 hg2
                  exact hK _ _ ⟨_, rfl, trivial, hR.op8 hD h10 hO2 hb2 hg2, trivial⟩
                refine Ord.each_cons (fun D xs wz hD hC hP hR hA K hK => ?_) ?_
                · -- 9
                  clear hA
                  go_simp
                  exact hK _ _ ⟨_, rfl, trivial, hR.skip _ (by decide), rfl⟩
                refine Ord.each_cons (fun D xs wz hD hC hP hR hA K hK => ?_) ?_
                · -- 10
                  have q9 := Ord.ahead_get _ hA 9 (by decide)
                  simp only [R19F] at q9
                  simp only [q9] at hK
                  clear hA
                  have h8 : D 8 = true := hP { on := 8, ground := .data } (by simp) rfl
                  obtain ⟨p3, c3', e3⟩ := bo_slice3' (hR.full1 h8)
                  have hst := hR.op10 (u := undef) h8
                  rw [e3] at hst
                  simp only [e3] at hK
                  obtain ⟨x0, x1, x2, x3⟩ := four_cell hR.blk
                  have ff := four_free hR.blk 2
                  go_simp
                  exact hK _ _ ⟨_, rfl, trivial, hst, trivial⟩
                exact Ord.each_nil
              case hend19 =>
                intro D6 xs6 w19 hR6 hF6
                have hx19 := hR6.blk
                rw [(hF6 10 (by decide)).1, if_pos rfl] at hx19
                have hf19 := hR6.full1 (hF6 8 (by decide)).1
                rw [HXE.out, ← Sl.fl_succ] at hf19
                have hd19 := hR6.dat
                have hs19 := hR6.siz
                have hb19 := hR6.bel
                have HRD19 : Hid (w19.heap[B]? = some (.cells #[.slice p L cc, .int .i64 (ee : Int)] 69 (0, 0))) := by show _ = _; rw [hb19.block B HBX.out]; exact HC.out.rdr
                have HAN19 : Hid (w19.heap[R]? = some (.cells #[.int .u8 0, .int .u32 0, nilS, nilS] 26 (0, 0))) := by show _ = _; rw [hb19.block R (by have h1 := HRB.out; have h2 := HBX.out; omega)]; exact HC.out.ans
                have HCB19 := Lib.hid (cell2_0 HRD19.out)
                have HB19 := Lib.hid (HC.out.bel.trans (hb19.mono HWX.out))
                have HBG19 : Hid (X ≤ w19.heap.size) := by show X ≤ _; have := lt_of_block hx19; omega
                have HX19 := Lib.hid hx19
                have HF19 := Lib.hid hf19
                have HD19 := Lib.hid hd19
                have HS19 := Lib.hid hs19
                clear hx19 hf19 hd19 hs19 hb19 hR6 hF6
                generalize xs6 8 = f19 at *
                generalize xs6 0 = y0 at *
                generalize xs6 1 = y1 at *
                generalize xs6 2 = y2 at *
                generalize xs6 3 = y3 at *
                generalize xs6 4 = y4 at *
                generalize xs6 5 = y5 at *
                generalize xs6 6 = y6 at *
                generalize xs6 7 = y7 at *
                generalize xs6 9 = y9 at *
                generalize xs6 10 = y10 at *
                go_upto_region 20 with (fail)
                refine Ord.walk (R20F B X z dv (.slice p L cc) (.slice p z cc)) (C7R X X (.int .u8 (kd : Int)) (.int .u32 (nx : Int)) f19 dv (Sl.fl b (j + 1)) vs (Sl.dtx R0 b j) tt (.slice (some ⟨gs, 0, none⟩) k csz) (Sl.mkl b k) w19) (fun _ _ => True)
                  (by kernel_rfl) (by kernel_rfl) ?fr20 ?hfr20 (fun _ _ _ _ _ h => h) (fun xs => C7R.first xs HBG19.out HF19.out HS19.out (Nat.le_refl _) HX19.out HD19.out) ?he20 ?hend20
                case hfr20 =>
                  intro xs
                  simp only [Ord.fill, Act.put, List.setIfInBounds_toArray, List.set_cons_zero, List.set_cons_succ]
                  rfl
                case he20 =>
                  refine Ord.each_cons (fun D xs wz hD hC hP hR hA K hK => ?_) ?_
                  · -- 0
                    clear hA
                    go_simp
                    exact hK _ _ ⟨_, rfl, trivial, hR.skip _ (by decide), rfl⟩
                  refine Ord.each_cons (fun D xs wz hD hC hP hR hA K hK => ?_) ?_
                  · -- 1
                    have q0 := Ord.ahead_get _ hA 0 (by decide)
                    simp only [R20F] at q0
                    simp only [q0] at hK
                    clear hA
                    have h11 : D 11 = false := by
                      cases h : D 11
                      · rfl
                      · have := Ord.closed_at hC 11 1 (by kernel_rfl) h
                        rw [hD] at this; cases this
                    obtain ⟨x0, x1, x2, x3⟩ := four_cell (hR.x0 h11)
                    go_simp
                    exact hK _ _ ⟨_, rfl, trivial, hR.skip _ (by decide), rfl⟩
                  refine Ord.each_cons (fun D xs wz hD hC hP hR hA K hK => ?_) ?_
                  · -- 2
                    clear hA
                    have h7 : D 7 = false := by
                      cases h : D 7
                      · rfl
                      · have := Ord.closed_at hC 7 2 (by kernel_rfl) h
                        rw [hD] at this; cases this
                    go_simp
                    exact hK _ _ ⟨_, rfl, trivial, hR.op2 rfl, trivial⟩
                  refine Ord.each_cons (fun D xs wz hD hC hP hR hA K hK => ?_) ?_
                  · -- 3
                    clear hA
                    go_simp
                    exact hK _ _ ⟨_, rfl, trivial, hR.skip _ (by decide), rfl⟩
                  refine Ord.each_cons (fun D xs wz hD hC hP hR hA K hK => ?_) ?_
                  · -- 4
                    have q3 := Ord.ahead_get _ hA 3 (by decide)
                    simp only [R20F] at q3
                    simp only [q3] at hK
                    clear hA
                    have c0 := hR.bel.cell (p := ⟨B, 0, none⟩) HBX.out
                    rw [HCB19.out] at c0
                    go_simp
                    exact hK _ _ ⟨_, rfl, trivial, hR.skip _ (by decide), rfl⟩
                  refine Ord.each_cons (fun D xs wz hD hC hP hR hA K hK => ?_) ?_
                  · -- 5
                    clear hA
                    go_simp
                    exact hK _ _ ⟨_, rfl, trivial, hR.skip _ (by decide), rfl⟩
                  refine Ord.each_cons (fun D xs wz hD hC hP hR hA K hK => ?_) ?_
                  · -- 6
                    have q4 := Ord.ahead_get _ hA 4 (by decide)
                    simp only [R20F] at q4
                    have q5 := Ord.ahead_get _ hA 5 (by decide)
                    simp only [R20F] at q5
                    simp only [q4, q5] at hK
                    clear hA
                    have k1 : (0 : Int) ≤ (z : Int) := by omega
                    have k2 : z ≤ cc := HZC.out
                    have k3 : (z : Int) ≤ (cc : Int) := by have := HZC.out; omega
                    cases p
                    · have hz0 := HPN.out rfl
                      obtain ⟨rfl, rfl⟩ := hz0
                      go_simp
                      exact hK _ _ ⟨_, rfl, trivial, hR.skip _ (by decide), rfl⟩
                    · go_simp
                      exact hK _ _ ⟨_, rfl, trivial, hR.skip _ (by decide), rfl⟩
                  refine Ord.each_cons (fun D xs wz hD hC hP hR hA K hK => ?_) ?_
                  · -- 7
                    have q6 := Ord.ahead_get _ hA 6 (by decide)
                    simp only [R20F] at q6
                    clear hA
                    have h2 : D 2 = true := hP { on := 2, ground := .data } (by simp) rfl
                    have h8 : D 8 = false := by
                      cases h : D 8
                      · rfl
                      · have := Ord.closed_at hC 8 7 (by kernel_rfl) h
                        rw [hD] at this; cases this
                    have h9 : D 9 = false := by
                      cases h : D 9
                      · rfl
                      · have := Ord.closed_at hC 9 7 (by kernel_rfl) h
                        rw [hD] at this; cases this
                    have h11 : D 11 = false := by
                      cases h : D 11
                      · rfl
                      · have := Ord.closed_at hC 11 7 (by kernel_rfl) h
                        rw [hD] at this; cases this
                    refine wp_append_Own (.tmp 70) (.tmp 74) rfl w19.heap.size (xs 2) [] rfl (hR.a2 h2 hD) _ tt (by rw [← q6]; rfl) (HTX.out.below (HB19.out.trans (hR.bel.mono HWX.out))) (by rw [List.length_nil]; have := HTXL.out; omega) hR.bel.size ?_
                    intro u w' hO2 hb2 hg2
                    rw [List.nil_append] at hO2
                    exact hK _ _ ⟨_, rfl, trivial, hR.op7 h2 hD h8 h9 h11 hO2 hg2 hb2, trivial⟩
                  refine Ord.each_cons (fun D xs wz hD hC hP hR hA K hK => ?_) ?_
                  · -- 8
                    clear hA
                    have h7 : D 7 = true := hP { on := 7, ground := .data } (by simp) rfl
                    have h9 : D 9 = false := by
                      cases h : D 9
                      · rfl
                      · have := Ord.closed_at hC 9 8 (by kernel_rfl) h
                        rw [hD] at this; cases this
                    obtain ⟨p8, n8, e8⟩ := own_slv (hR.a7 h7 h9)
                    have hst := hR.op8 h7 h9 (u := .slice (some ⟨wz.heap.size, 0, none⟩) 1 1) rfl
                    rw [e8] at hst
                    simp only [e8] at hK
                    go_simp
                    exact hK _ _ ⟨_, rfl, trivial, hst, trivial⟩
                  refine Ord.each_cons (fun D xs wz hD hC hP hR hA K hK => ?_) ?_
                  · -- 9
                    have q1 := Ord.ahead_get _ hA 1 (by decide)
                    simp only [R20F] at q1
                    clear hA
                    have h8 : D 8 = true := hP { on := 8, ground := .data } (by simp) rfl
                    have h7 : D 7 = true := hP { on := 7, ground := .chain } (by simp) rfl
                    have h11 : D 11 = false := by
                      cases h : D 11
                      · rfl
                      · have := Ord.closed_at hC 11 9 (by kernel_rfl) h
                        rw [hD] at this; cases this
                    refine Sv.wp_append_Own (.tmp 69) (.tmp 76) rfl X dv vs (by rw [← q1]; rfl) (hR.old hD).own (xs 8) [xs 7] rfl (hR.a8 h8 hD) (by rw [(hR.old hD).len, Sl.dtx_length]; have h1 := HLT.out; have h2 := HK8.out; simp; omega) (Nat.le_trans hR.big hR.bel.size) ?_
                    intro u w' hO2 hb2 hg2
                    exact hK _ _ ⟨_, rfl, trivial, hR.op9 h7 hD h11 hO2 hg2 hb2, trivial⟩
                  refine Ord.each_cons (fun D xs wz hD hC hP hR hA K hK => ?_) ?_
                  · -- 10
                    clear hA
                    go_simp
                    exact hK _ _ ⟨_, rfl, trivial, hR.skip _ (by decide), rfl⟩
                  refine Ord.each_cons (fun D xs wz hD hC hP hR hA K hK => ?_) ?_
                  · -- 11
                    have q10 := Ord.ahead_get _ hA 10 (by decide)
                    simp only [R20F] at q10
                    simp only [q10] at hK
                    clear hA
                    have h9 : D 9 = true := hP { on := 9, ground := .data } (by simp) rfl
                    have h7 : D 7 = true := hP { on := 7, ground := .phase } (by simp) rfl
                    obtain ⟨p10, m10, n10, e10⟩ := sv_slice (hR.a9 h9).own
                    have hx0 := hR.x0 hD
                    obtain ⟨x0, x1, x2, x3⟩ := four_cell hx0
                    have f3 := four_free hx0 3
                    have hst := hR.op11 (u := undef) h7 h9 hD
                    rw [e10] at hst
                    simp only [e10] at hK
                    go_simp
                    exact hK _ _ ⟨_, rfl, trivial, hst, trivial⟩
                  exact Ord.each_nil
                case hend20 =>
                  intro D7 xs7 w20 hR7 hF7
                  have hx20 := hR7.a11 (hF7 11 (by decide)).1
                  have hd20 := hR7.a9 (hF7 9 (by decide)).1
                  rw [HTT.out, ← Sl.dtx_succ] at hd20
                  have hb20 := hR7.bel
                  have HC20 : Hid (CutD w R B X ee (.int .u8 (kd : Int)) (.int .u32 (nx : Int)) (.slice p L cc) (.slice (some ⟨gs, 0, none⟩) k csz) f19 (xs7 9) (vs ++ [xs7 7]) (Sl.mkl b k) (Sl.fl b (j + 1)) (Sl.dtx R0 b (j + 1)) w20) :=
                    ⟨by rw [hb20.block B HBX.out]; exact HRD19.out, by rw [hb20.block R (by have h1 := HRB.out; have h2 := HBX.out; omega)]; exact HAN19.out, hx20, hR7.full, hd20, hR7.siz, HB19.out.trans (hb20.mono HWX.out), HRE.out, HRB.out, HBX.out⟩
                  clear hx20 hd20 hb20 hR7 hF7
                  generalize xs7 9 = d20 at *
                  generalize xs7 7 = t20 at *
                  generalize xs7 0 = z0 at *
                  generalize xs7 1 = z1 at *
                  generalize xs7 2 = z2 at *
                  generalize xs7 3 = z3 at *
                  generalize xs7 4 = z4 at *
                  generalize xs7 5 = z5 at *
                  generalize xs7 6 = z6 at *
                  generalize xs7 8 = z8 at *
                  generalize xs7 10 = z10 at *
                  generalize xs7 11 = z11 at *
                  have hcB2 : w20.cell? ⟨B, 0, none⟩ = some (.slice p L cc) := cell2_0 HC20.out.rdr
                  have hfB2 : w20.frozen? ⟨B, 0, none⟩ = false := free2 HC20.out.rdr 0
                  have k1 : (0 : Int) ≤ (z : Int) := by omega
                  have k2 : z ≤ L := HFIT.out
                  have k3 : (z : Int) ≤ (L : Int) := by omega
                  by_cases hL0 : L = 0
                  · have hz0 : z = 0 := by omega
                    have HZ0 := Lib.hid hz0
                    have HL0 := Lib.hid hL0
                    have HEM : Hid (R0.drop (Sl.off b (j + 1)) = []) := by
                      have h1 := HLL.out
                      rw [hL0, List.length_drop] at h1
                      exact List.drop_of_length_le (by rw [Sl.off_succ]; omega)
                    subst hz0
                    subst hL0
                    clear k2 k3
                    cases p with
                    | none =>
                      obtain ⟨-, hcc⟩ := HPN.out rfl
                      subst hcc
                      go_wp2_with fail
                      go_roundw
                      case rel => exact ⟨j + 1, _, _, _, _, _, _, by have := HLT.out; omega, by go_num, by rw [HEM.out]; rfl, by have h1 := HLL.out; have h2 := HZE.out; have h3 := HFIT.out; rw [List.length_drop] at h1; rw [Sl.off_succ]; have := HOF.out; omega, by rw [HEM.out]; exact (own_nil 0 w).bts, HC20.out.move⟩
                      case measure => have := HLT.out; simp [intOf]; omega
                    | some ad =>
                      have hcc2 : cc ≤ 9223372036854775807 := by
                        obtain ⟨_, c', e, h1, -, -⟩ := HBT2.out.form
                        simp only [Value.slice.injEq] at e
                        obtain ⟨-, -, rfl⟩ := e
                        exact h1.2
                      go_wp2_with fail
                      go_roundw
                      case rel => exact ⟨j + 1, _, _, _, _, _, _, by have := HLT.out; omega, by go_num, by rw [HEM.out]; rfl, by have h1 := HLL.out; have h2 := HZE.out; have h3 := HFIT.out; rw [List.length_drop] at h1; rw [Sl.off_succ]; have := HOF.out; omega, by rw [HEM.out]; first | exact bts_zero w _ 0 _ rfl (by omega) | (split <;> exact bts_zero w _ 0 _ rfl (by omega)), HC20.out.move⟩
                      case measure => have := HLT.out; simp [intOf]; omega
                  · obtain ⟨p', c', e, h1, -, h3⟩ := HBT2.out.form
                    have hll := HLL.out
                    obtain ⟨bb, oo, e2, -⟩ := h3 (by omega)
                    simp only [Value.slice.injEq] at e
                    obtain ⟨rfl, -, rfl⟩ := e
                    subst e2
                    have hfr := bts_from HBT2.out (n := z) hll (by rw [← hll]; exact k2)
                    rw [List.drop_drop] at hfr
                    have HNX2 : Hid (∃ o2 c2, (if cc = z then some (⟨bb, oo, none⟩ : Addr) else some ⟨bb, oo + z, none⟩) = some ⟨bb, o2, none⟩ ∧ cc - z = c2 ∧ Bts w (.slice (some ⟨bb, o2, none⟩) (L - z) c2) (R0.drop (Sl.off b (j + 1)))) := by
                      rw [Sl.off_succ, ← HZE.out]
                      by_cases e : cc = z
                      · rw [if_pos e] at hfr; exact ⟨oo, _, by rw [if_pos e], rfl, hfr⟩
                      · rw [if_neg e] at hfr; exact ⟨oo + z, _, by rw [if_neg e], rfl, hfr⟩
                    obtain ⟨o2, c2, ho2, hc2, hr2⟩ := HNX2.out
                    have HR9 := Lib.hid hr2
                    clear hr2 HNX2 hfr h1 h3 hll
                    go_wp2_with fail
                    go_roundw
                    case rel => exact ⟨j + 1, _, _, _, _, _, _, by have := HLT.out; omega, by go_num, by have h1 := HLL.out; have h2 := HZE.out; rw [List.length_drop] at h1 ⊢; rw [Sl.off_succ]; omega, by have h1 := HLL.out; have h2 := HZE.out; have h3 := HFIT.out; rw [List.length_drop] at h1; rw [Sl.off_succ]; have := HOF.out; omega, HR9.out, HC20.out.move⟩
                    case measure => have := HLT.out; simp [intOf]; omega
            · have hfi : (L : Int) < (z : Int) := by omega
              have HFIT : Hid (L < z) := by show L < z; omega
              clear hfit
              have HV : Hid (rr = (Sl.none_, 4)) := by
                show rr = _
                rw [HRR.out]
                exact Sl.readR_bad (fun hg => by
                  have h1 := hg.most
                  have h2 : k = Sl.cn b := by have := HNN.out; rcases HOR.out with h | h <;> omega
                  have h3 := hg.fit
                  have h4 : R0 = Sl.rs b := by rw [HR0.out]; unfold Sl.rs; rw [← h2]
                  rw [← h4, ← h2] at h3
                  have h5 := Sl.off_mono b (show j + 1 ≤ k from HLT.out)
                  rw [Sl.off_succ, ← HZE.out] at h5
                  have h6 := HLL.out
                  rw [List.length_drop] at h6
                  have h7 := HFIT.out
                  have h8 := HOF.out
                  omega)
              obtain ⟨f0, f1, f2, f3⟩ : _ ∧ _ ∧ _ ∧ _ := ⟨four_free HC.out.ans 0, four_free HC.out.ans 1, four_free HC.out.ans 2, four_free HC.out.ans 3⟩
              obtain ⟨g0, g1, g2, g3⟩ := four_cell HC.out.ans
              obtain ⟨d1, d2⟩ := set4all (x := .int .u8 0) (y := .int .u32 0) (z := nilS) (u := nilS) HC.out.ans
              obtain ⟨r0, r1, r2, r3⟩ := four_cell d1
              have D2 := Lib.hid d2
              have D3 := Lib.hid (below_grown HC.out.bel d2 HC.out.bel.size (by have := HRE.out; omega))
              clear d1 d2
              go_wp2_with fail
              refine bodyPost_ret (v := .tuple #[SlV 0 0 nilS nilS, .int .i64 4]) (by simp [results, Try.results18, go_sem, r0, r1, r2, r3]) rfl ?_
              refine ⟨nilS, nilS, by rw [HV.out]; rfl, ?_, D3.out⟩
              rw [HV.out]
              exact slat_none' _
          · obtain rfl : j = k := by omega
            obtain ⟨q0, q1, q2, q3⟩ := four_cell HC.out.blk
            have hcB : wr.cell? ⟨B, 1, none⟩ = some (.int .i64 (ee : Int)) := cell2_1 HC.out.rdr
            have HCB := Lib.hid hcB
            have HXB := Lib.hid HC.out.blk
            have HAN := Lib.hid HC.out.ans
            have HBW := Lib.hid HC.out.bel
            have HBL : Hid (B < wr.heap.size) := lt_of_block HC.out.rdr
            have HXL : Hid (X < wr.heap.size) := lt_of_block HC.out.blk
            clear hcB q0 q1 q2 q3 hlt hjk
            by_cases h7 : j ≤ 247
            · have he0 : ee = 0 := by rw [HEE.out]; exact if_pos h7
              subst he0
              have hnj : j = n := by rcases HOR.out with h | h <;> omega
              have HNJ : Hid (j = Sl.cn b) := by show j = _; rw [hnj]; exact HNN.out
              have HRS : Hid (R0 = Sl.rs b) := by show R0 = _; rw [HR0.out]; unfold Sl.rs; rw [← HNJ.out]
              have HSO : Hid (SlAt wr fv dv (Sl.sof b) ∧ SlOwn X wr fv dv vs (Sl.sof b)) := by
                have h1 : SlOwn X wr fv dv vs (Sl.sof b) := ⟨by show Bo.Own _ _ _ (FB (Sl.fl b (Sl.cn b))); rw [← HNJ.out]; exact HC.out.full, by show DOwn _ _ _ _ (Sl.dt b (Sl.cn b)); rw [← HNJ.out, ← Sl.dtx_rs, ← HRS.out]; exact HC.out.dat, Sl.kd_lt HSMB.out, Sl.nx_lt HSMB.out⟩
                exact ⟨h1.at, h1⟩
              have HTK : Hid (Sl.took (Sl.sof b) ≤ 1000000 ∧ (Sl.sof b).full.length ≤ 1000000) := by
                have h1 : (Sl.sof b).data.flatten = (Sl.rs b).take (Sl.off b (Sl.cn b)) := Sl.dt_flat _ _
                have h2 : (Sl.sof b).data.length = Sl.cn b := Sl.dt_length _ _
                have h3 : (Sl.sof b).full.length = Sl.cn b := Sl.fl_length _ _
                have h4 : Sl.tot (Sl.sof b).data ≤ 500 := by
                  unfold Sl.tot
                  rw [h1, List.length_take, ← HRS.out]
                  have := HRL.out
                  omega
                have h5 := HNJ.out
                exact ⟨by unfold Sl.took; rw [h2]; omega, by rw [h3]; omega⟩
              have hkv : (Sl.sof b).kind = kd := HKD.out.symm
              have hnv : (Sl.sof b).next = nx := HNX.out.symm
              have HMA := Lib.hid (fun w' (hb : Below wr.heap.size wr w') => refMay_any _ _ (Sl.sof b) w' (HSO.out.1.below hb) HTK.out.1 HTK.out.2)
              rw [hkv, hnv] at HMA
              obtain ⟨pf, cf, rfl⟩ := bo_slice3' HC.out.full
              obtain ⟨pd, nd', cd, rfl⟩ := sv_slice HC.out.dat.own
              clear h7 hnj
              by_cases hmy : Sl.May (Sl.sof b)
              · rw [Sl.may_true hmy] at HMA
                have HMY := Lib.hid hmy
                have HFO := Lib.hid (fun w' (hb : Below wr.heap.size wr w') => refForm_any _ _ (Sl.sof b) w' (HSO.out.1.below hb) hmy)
                rw [hkv, hnv] at HFO
                clear hmy hkv hnv
                obtain ⟨S1, hS1⟩ : ∃ S1, S1 = strOfNums ((Sl.form (Sl.sof b)).map fun x : Nat => (x : Int)) := ⟨_, rfl⟩
                obtain ⟨S2, hS2⟩ : ∃ S2, S2 = strOfNums (b.map fun x : Nat => (x : Int)) := ⟨_, rfl⟩
                have HS1 := Lib.hid hS1
                have HS2 := Lib.hid hS2
                by_cases hfo : Sl.form (Sl.sof b) = b
                · have HXS : Hid ((!(S1.toList == S2.toList)) = false) := by show _ = _; rw [hS1, hS2, hfo]; simp
                  have HGO : Hid (Sl.readR b = (Sl.sof b, 0)) := Sl.readR_of ⟨HMY.out, Sl.kd_lt HSMB.out, Sl.nx_lt HSMB.out, hfo⟩
                  clear hfo hS1 hS2
                  go_upto_region 22 with (fail)
                  refine Ord.walk (RF3 B (SlV kd nx (.slice pf (FB (Sl.fl b j)).length cf) (.slice pd nd' cd)) (.slice pm b.length cm) (Sl.form (Sl.sof b)) S1 S2 false) (fun _ _ w' => Below wr.heap.size wr w') (fun a b => Below a.heap.size a b)
                    (by kernel_rfl) (by kernel_rfl) ?fr22o ?hfr22o rf3_later (fun xs => (Below.refl _ _).go1) ?he22o ?hend22o
                  case hfr22o =>
                    intro xs
                    simp only [Ord.fill, Act.put, List.setIfInBounds_toArray, List.set_cons_zero, List.set_cons_succ]
                    rfl
                  case he22o =>
                    refine Ord.each_cons (fun D xs wz hD hC hP hR hA K hK => ?_) ?_
                    · -- 0
                      clear hA
                      go_simp
                      exact hK _ _ ⟨_, rfl, Below.refl _ _, hR, rfl⟩
                    refine Ord.each_cons (fun D xs wz hD hC hP hR hA K hK => ?_) ?_
                    · -- 1
                      have q0 := Ord.ahead_get _ hA 0 (by decide)
                      simp only [RF3] at q0
                      simp only [q0] at hK
                      clear hA
                      have c0 := hR.cell (p := ⟨B, 1, none⟩) HBL.out
                      rw [HCB.out] at c0
                      go_simp
                      exact hK _ _ ⟨_, rfl, Below.refl _ _, hR, rfl⟩
                    refine Ord.each_cons (fun D xs wz hD hC hP hR hA K hK => ?_) ?_
                    · -- 2
                      have q1 := Ord.ahead_get _ hA 1 (by decide)
                      simp only [RF3] at q1
                      simp only [q1] at hK
                      clear hA
                      go_simp
                      exact hK _ _ ⟨_, rfl, Below.refl _ _, hR, rfl⟩
                    refine Ord.each_cons (fun D xs wz hD hC hP hR hA K hK => ?_) ?_
                    · -- 3
                      have q2 := Ord.ahead_get _ hA 2 (by decide)
                      simp only [RF3] at q2
                      simp only [q2] at hK
                      clear hA
                      go_simp
                      exact hK _ _ ⟨_, rfl, Below.refl _ _, hR, rfl⟩
                    refine Ord.each_cons (fun D xs wz hD hC hP hR hA K hK => ?_) ?_
                    · -- 4
                      have q3 := Ord.ahead_get _ hA 3 (by decide)
                      simp only [RF3] at q3
                      simp only [q3] at hK
                      clear hA
                      have c0 := hR.cell (p := ⟨X, 0, none⟩) HXL.out
                      rw [(four_cell HXB.out).1] at c0
                      have c1 := hR.cell (p := ⟨X, 1, none⟩) HXL.out
                      rw [(four_cell HXB.out).2.1] at c1
                      have c2 := hR.cell (p := ⟨X, 2, none⟩) HXL.out
                      rw [(four_cell HXB.out).2.2.1] at c2
                      have c3 := hR.cell (p := ⟨X, 3, none⟩) HXL.out
                      rw [(four_cell HXB.out).2.2.2] at c3
                      go_simp
                      exact hK _ _ ⟨_, rfl, Below.refl _ _, hR, rfl⟩
                    refine Ord.each_cons (fun D xs wz hD hC hP hR hA K hK => ?_) ?_
                    · -- 5
                      have q4 := Ord.ahead_get _ hA 4 (by decide)
                      simp only [RF3] at q4
                      have q3 := Ord.ahead_get _ hA 3 (by decide)
                      simp only [RF3] at q3
                      simp only [q4, q3] at hK
                      clear hA
                      go_simp
                      refine (HMA.out wz hR).mono ?_
                      rintro e w' ⟨rfl, hb⟩
                      exact hK _ _ ⟨_, rfl, hb, hR.trans (hb.mono hR.size), rfl⟩
                    refine Ord.each_cons (fun D xs wz hD hC hP hR hA K hK => ?_) ?_
                    · -- 6
                      have q5 := Ord.ahead_get _ hA 5 (by decide)
                      simp only [RF3] at q5
                      have q3 := Ord.ahead_get _ hA 3 (by decide)
                      simp only [RF3] at q3
                      simp only [q5, q3] at hK
                      clear hA
                      go_simp
                      exact hK _ _ ⟨_, rfl, Below.refl _ _, hR, rfl⟩
                    refine Ord.each_cons (fun D xs wz hD hC hP hR hA K hK => ?_) ?_
                    · -- 7
                      have q3 := Ord.ahead_get _ hA 3 (by decide)
                      simp only [RF3] at q3
                      have q6 := Ord.ahead_get _ hA 6 (by decide)
                      simp only [RF3] at q6
                      simp only [q3, q6] at hK
                      clear hA
                      go_simp
                      exact hK _ _ ⟨_, rfl, Below.refl _ _, hR, rfl⟩
                    refine Ord.each_cons (fun D xs wz hD hC hP hR hA K hK => ?_) ?_
                    · -- 8
                      have q7 := Ord.ahead_get _ hA 7 (by decide)
                      simp only [RF3] at q7
                      simp only [q7] at hK
                      clear hA
                      go_simp
                      exact hK _ _ ⟨_, rfl, Below.refl _ _, hR, rfl⟩
                    refine Ord.each_cons (fun D xs wz hD hC hP hR hA K hK => ?_) ?_
                    · -- 9
                      have q8 := Ord.ahead_get _ hA 8 (by decide)
                      simp only [RF3] at q8
                      simp only [q8] at hK
                      clear hA
                      have c0 := hR.cell (p := ⟨X, 0, none⟩) HXL.out
                      rw [(four_cell HXB.out).1] at c0
                      have c1 := hR.cell (p := ⟨X, 1, none⟩) HXL.out
                      rw [(four_cell HXB.out).2.1] at c1
                      have c2 := hR.cell (p := ⟨X, 2, none⟩) HXL.out
                      rw [(four_cell HXB.out).2.2.1] at c2
                      have c3 := hR.cell (p := ⟨X, 3, none⟩) HXL.out
                      rw [(four_cell HXB.out).2.2.2] at c3
                      go_simp
                      exact hK _ _ ⟨_, rfl, Below.refl _ _, hR, rfl⟩
                    refine Ord.each_cons (fun D xs wz hD hC hP hR hA K hK => ?_) ?_
                    · -- 10
                      have q9 := Ord.ahead_get _ hA 9 (by decide)
                      simp only [RF3] at q9
                      have q8 := Ord.ahead_get _ hA 8 (by decide)
                      simp only [RF3] at q8
                      simp only [q9, q8] at hK
                      clear hA
                      go_simp
                      refine (HFO.out wz hR).mono ?_
                      rintro e w' ⟨u, rfl, hO, hb⟩
                      exact hK _ _ ⟨_, rfl, hb, hR.trans (hb.mono hR.size), hO.bts⟩
                    refine Ord.each_cons (fun D xs wz hD hC hP hR hA K hK => ?_) ?_
                    · -- 11
                      have q8 := Ord.ahead_get _ hA 8 (by decide)
                      simp only [RF3] at q8
                      have q10 := Ord.ahead_get _ hA 10 (by decide)
                      simp only [RF3] at q10
                      simp only [q8] at hK
                      clear hA
                      have hcv := strOf_conv q10
                      rw [← HS1.out] at hcv
                      go_simp
                      exact hK _ _ ⟨_, rfl, Below.refl _ _, hR, rfl⟩
                    refine Ord.each_cons (fun D xs wz hD hC hP hR hA K hK => ?_) ?_
                    · -- 12
                      have q8 := Ord.ahead_get _ hA 8 (by decide)
                      simp only [RF3] at q8
                      simp only [q8] at hK
                      clear hA
                      go_simp
                      exact hK _ _ ⟨_, rfl, Below.refl _ _, hR, rfl⟩
                    refine Ord.each_cons (fun D xs wz hD hC hP hR hA K hK => ?_) ?_
                    · -- 13
                      have q12 := Ord.ahead_get _ hA 12 (by decide)
                      simp only [RF3] at q12
                      have q8 := Ord.ahead_get _ hA 8 (by decide)
                      simp only [RF3] at q8
                      simp only [q12, q8] at hK
                      clear hA
                      have hcv := strOf_conv (HBT.out.below (HBW.out.trans (hR.mono HBW.out.size)))
                      rw [← HS2.out] at hcv
                      go_simp
                      exact hK _ _ ⟨_, rfl, Below.refl _ _, hR, rfl⟩
                    refine Ord.each_cons (fun D xs wz hD hC hP hR hA K hK => ?_) ?_
                    · -- 14
                      have q11 := Ord.ahead_get _ hA 11 (by decide)
                      simp only [RF3] at q11
                      have q13 := Ord.ahead_get _ hA 13 (by decide)
                      simp only [RF3] at q13
                      have q8 := Ord.ahead_get _ hA 8 (by decide)
                      simp only [RF3] at q8
                      simp only [q11, q13, q8] at hK
                      clear hA
                      have hxx := HXS.out
                      go_simp
                      exact hK _ _ ⟨_, rfl, Below.refl _ _, hR, rfl⟩
                    refine Ord.each_cons (fun D xs wz hD hC hP hR hA K hK => ?_) ?_
                    · -- 15
                      have q8 := Ord.ahead_get _ hA 8 (by decide)
                      simp only [RF3] at q8
                      have q14 := Ord.ahead_get _ hA 14 (by decide)
                      simp only [RF3] at q14
                      simp only [q8, q14] at hK
                      clear hA
                      go_simp
                      exact hK _ _ ⟨_, rfl, Below.refl _ _, hR, rfl⟩
                    exact Ord.each_nil
                  case hend22o =>
                    intro D2 xs2 wz hR2 hF2
                    have e15 := (hF2 15 (by decide)).2
                    simp only [RF3] at e15
                    rw [e15]
                    have HBZ := Lib.hid (HBW.out.trans (hR2.mono HBW.out.size))
                    have hran := hR2.block R (lt_of_block HAN.out)
                    rw [HAN.out] at hran
                    have HRZ := Lib.hid hran
                    have HBZ2 := Lib.hid hR2
                    clear e15 hF2 hR2 hran
                    generalize xs2 0 = y0 at *
                    generalize xs2 1 = y1 at *
                    generalize xs2 2 = y2 at *
                    generalize xs2 3 = y3 at *
                    generalize xs2 4 = y4 at *
                    generalize xs2 5 = y5 at *
                    generalize xs2 6 = y6 at *
                    generalize xs2 7 = y7 at *
                    generalize xs2 8 = y8 at *
                    generalize xs2 9 = y9 at *
                    generalize xs2 10 = y10 at *
                    generalize xs2 11 = y11 at *
                    generalize xs2 12 = y12 at *
                    generalize xs2 13 = y13 at *
                    generalize xs2 14 = y14 at *
                    have HV : Hid (rr = (Sl.sof b, 0)) := by show rr = _; rw [HRR.out]; exact HGO.out
                    have hxq := HBZ2.out.block X HXL.out
                    rw [HXB.out] at hxq
                    obtain ⟨q0, q1, q2, q3⟩ := four_cell hxq
                    have HSZ := Lib.hid (HSO.out.2.below HBZ2.out)
                    clear hxq
                    obtain ⟨f0, f1, f2, f3⟩ : _ ∧ _ ∧ _ ∧ _ := ⟨four_free HRZ.out 0, four_free HRZ.out 1, four_free HRZ.out 2, four_free HRZ.out 3⟩
                    obtain ⟨g0, g1, g2, g3⟩ := four_cell HRZ.out
                    obtain ⟨d1, d2⟩ := set4all (x := .int .u8 (kd : Int)) (y := .int .u32 (nx : Int)) (z := .slice pf (FB (Sl.fl b j)).length cf) (u := .slice pd nd' cd) HRZ.out
                    obtain ⟨r0, r1, r2, r3⟩ := four_cell d1
                    have D2 := Lib.hid d2
                    have D3 := Lib.hid (below_grown HBZ.out d2 HBZ.out.size (by have := HRE.out; omega))
                    clear d1 d2
                    go_wp2_with fail
                    refine bodyPost_ret (v := .tuple #[SlV kd nx (.slice pf (FB (Sl.fl b j)).length cf) (.slice pd nd' cd), .int .i64 0]) (by simp [results, Try.results18, go_sem, r0, r1, r2, r3]) rfl ?_
                    refine ⟨_, _, by rw [HV.out, HKD.out, HNX.out]; rfl, ?_, D3.out⟩
                    rw [HV.out]
                    exact (HSZ.out.blk HRZ.out D2.out).at
                · have HXS : Hid ((!(S1.toList == S2.toList)) = true) := by
                    have h1 := Sl.ne_form (a := Sl.form (Sl.sof b)) (b := b) (form_small (Sl.kd_lt HSMB.out) HMY.out HSO.out.1) HSMB.out hfo
                    show _ = _
                    rw [hS1, hS2, h1]; rfl
                  have HFN : Hid (¬ Sl.form (Sl.sof b) = b) := hfo
                  clear hfo hS1 hS2
                  go_upto_region 22 with (fail)
                  refine Ord.walk (RF3 B (SlV kd nx (.slice pf (FB (Sl.fl b j)).length cf) (.slice pd nd' cd)) (.slice pm b.length cm) (Sl.form (Sl.sof b)) S1 S2 true) (fun _ _ w' => Below wr.heap.size wr w') (fun a b => Below a.heap.size a b)
                    (by kernel_rfl) (by kernel_rfl) ?fr22n ?hfr22n rf3_later (fun xs => (Below.refl _ _).go1) ?he22n ?hend22n
                  case hfr22n =>
                    intro xs
                    simp only [Ord.fill, Act.put, List.setIfInBounds_toArray, List.set_cons_zero, List.set_cons_succ]
                    rfl
                  case he22n =>
                    refine Ord.each_cons (fun D xs wz hD hC hP hR hA K hK => ?_) ?_
                    · -- 0
                      clear hA
                      go_simp
                      exact hK _ _ ⟨_, rfl, Below.refl _ _, hR, rfl⟩
                    refine Ord.each_cons (fun D xs wz hD hC hP hR hA K hK => ?_) ?_
                    · -- 1
                      have q0 := Ord.ahead_get _ hA 0 (by decide)
                      simp only [RF3] at q0
                      simp only [q0] at hK
                      clear hA
                      have c0 := hR.cell (p := ⟨B, 1, none⟩) HBL.out
                      rw [HCB.out] at c0
                      go_simp
                      exact hK _ _ ⟨_, rfl, Below.refl _ _, hR, rfl⟩
                    refine Ord.each_cons (fun D xs wz hD hC hP hR hA K hK => ?_) ?_
                    · -- 2
                      have q1 := Ord.ahead_get _ hA 1 (by decide)
                      simp only [RF3] at q1
                      simp only [q1] at hK
                      clear hA
                      go_simp
                      exact hK _ _ ⟨_, rfl, Below.refl _ _, hR, rfl⟩
                    refine Ord.each_cons (fun D xs wz hD hC hP hR hA K hK => ?_) ?_
                    · -- 3
                      have q2 := Ord.ahead_get _ hA 2 (by decide)
                      simp only [RF3] at q2
                      simp only [q2] at hK
                      clear hA
                      go_simp
                      exact hK _ _ ⟨_, rfl, Below.refl _ _, hR, rfl⟩
                    refine Ord.each_cons (fun D xs wz hD hC hP hR hA K hK => ?_) ?_
                    · -- 4
                      have q3 := Ord.ahead_get _ hA 3 (by decide)
                      simp only [RF3] at q3
                      simp only [q3] at hK
                      clear hA
                      have c0 := hR.cell (p := ⟨X, 0, none⟩) HXL.out
                      rw [(four_cell HXB.out).1] at c0
                      have c1 := hR.cell (p := ⟨X, 1, none⟩) HXL.out
                      rw [(four_cell HXB.out).2.1] at c1
                      have c2 := hR.cell (p := ⟨X, 2, none⟩) HXL.out
                      rw [(four_cell HXB.out).2.2.1] at c2
                      have c3 := hR.cell (p := ⟨X, 3, none⟩) HXL.out
                      rw [(four_cell HXB.out).2.2.2] at c3
                      go_simp
                      exact hK _ _ ⟨_, rfl, Below.refl _ _, hR, rfl⟩
                    refine Ord.each_cons (fun D xs wz hD hC hP hR hA K hK => ?_) ?_
                    · -- 5
                      have q4 := Ord.ahead_get _ hA 4 (by decide)
                      simp only [RF3] at q4
                      have q3 := Ord.ahead_get _ hA 3 (by decide)
                      simp only [RF3] at q3
                      simp only [q4, q3] at hK
                      clear hA
                      go_simp
                      refine (HMA.out wz hR).mono ?_
                      rintro e w' ⟨rfl, hb⟩
                      exact hK _ _ ⟨_, rfl, hb, hR.trans (hb.mono hR.size), rfl⟩
                    refine Ord.each_cons (fun D xs wz hD hC hP hR hA K hK => ?_) ?_
                    · -- 6
                      have q5 := Ord.ahead_get _ hA 5 (by decide)
                      simp only [RF3] at q5
                      have q3 := Ord.ahead_get _ hA 3 (by decide)
                      simp only [RF3] at q3
                      simp only [q5, q3] at hK
                      clear hA
                      go_simp
                      exact hK _ _ ⟨_, rfl, Below.refl _ _, hR, rfl⟩
                    refine Ord.each_cons (fun D xs wz hD hC hP hR hA K hK => ?_) ?_
                    · -- 7
                      have q3 := Ord.ahead_get _ hA 3 (by decide)
                      simp only [RF3] at q3
                      have q6 := Ord.ahead_get _ hA 6 (by decide)
                      simp only [RF3] at q6
                      simp only [q3, q6] at hK
                      clear hA
                      go_simp
                      exact hK _ _ ⟨_, rfl, Below.refl _ _, hR, rfl⟩
                    refine Ord.each_cons (fun D xs wz hD hC hP hR hA K hK => ?_) ?_
                    · -- 8
                      have q7 := Ord.ahead_get _ hA 7 (by decide)
                      simp only [RF3] at q7
                      simp only [q7] at hK
                      clear hA
                      go_simp
                      exact hK _ _ ⟨_, rfl, Below.refl _ _, hR, rfl⟩
                    refine Ord.each_cons (fun D xs wz hD hC hP hR hA K hK => ?_) ?_
                    · -- 9
                      have q8 := Ord.ahead_get _ hA 8 (by decide)
                      simp only [RF3] at q8
                      simp only [q8] at hK
                      clear hA
                      have c0 := hR.cell (p := ⟨X, 0, none⟩) HXL.out
                      rw [(four_cell HXB.out).1] at c0
                      have c1 := hR.cell (p := ⟨X, 1, none⟩) HXL.out
                      rw [(four_cell HXB.out).2.1] at c1
                      have c2 := hR.cell (p := ⟨X, 2, none⟩) HXL.out
                      rw [(four_cell HXB.out).2.2.1] at c2
                      have c3 := hR.cell (p := ⟨X, 3, none⟩) HXL.out
                      rw [(four_cell HXB.out).2.2.2] at c3
                      go_simp
                      exact hK _ _ ⟨_, rfl, Below.refl _ _, hR, rfl⟩
                    refine Ord.each_cons (fun D xs wz hD hC hP hR hA K hK => ?_) ?_
                    · -- 10
                      have q9 := Ord.ahead_get _ hA 9 (by decide)
                      simp only [RF3] at q9
                      have q8 := Ord.ahead_get _ hA 8 (by decide)
                      simp only [RF3] at q8
                      simp only [q9, q8] at hK
                      clear hA
                      go_simp
                      refine (HFO.out wz hR).mono ?_
                      rintro e w' ⟨u, rfl, hO, hb⟩
                      exact hK _ _ ⟨_, rfl, hb, hR.trans (hb.mono hR.size), hO.bts⟩
                    refine Ord.each_cons (fun D xs wz hD hC hP hR hA K hK => ?_) ?_
                    · -- 11
                      have q8 := Ord.ahead_get _ hA 8 (by decide)
                      simp only [RF3] at q8
                      have q10 := Ord.ahead_get _ hA 10 (by decide)
                      simp only [RF3] at q10
                      simp only [q8] at hK
                      clear hA
                      have hcv := strOf_conv q10
                      rw [← HS1.out] at hcv
                      go_simp
                      exact hK _ _ ⟨_, rfl, Below.refl _ _, hR, rfl⟩
                    refine Ord.each_cons (fun D xs wz hD hC hP hR hA K hK => ?_) ?_
                    · -- 12
                      have q8 := Ord.ahead_get _ hA 8 (by decide)
                      simp only [RF3] at q8
                      simp only [q8] at hK
                      clear hA
                      go_simp
                      exact hK _ _ ⟨_, rfl, Below.refl _ _, hR, rfl⟩
                    refine Ord.each_cons (fun D xs wz hD hC hP hR hA K hK => ?_) ?_
                    · -- 13
                      have q12 := Ord.ahead_get _ hA 12 (by decide)
                      simp only [RF3] at q12
                      have q8 := Ord.ahead_get _ hA 8 (by decide)
                      simp only [RF3] at q8
                      simp only [q12, q8] at hK
                      clear hA
                      have hcv := strOf_conv (HBT.out.below (HBW.out.trans (hR.mono HBW.out.size)))
                      rw [← HS2.out] at hcv
                      go_simp
                      exact hK _ _ ⟨_, rfl, Below.refl _ _, hR, rfl⟩
                    refine Ord.each_cons (fun D xs wz hD hC hP hR hA K hK => ?_) ?_
                    · -- 14
                      have q11 := Ord.ahead_get _ hA 11 (by decide)
                      simp only [RF3] at q11
                      have q13 := Ord.ahead_get _ hA 13 (by decide)
                      simp only [RF3] at q13
                      have q8 := Ord.ahead_get _ hA 8 (by decide)
                      simp only [RF3] at q8
                      simp only [q11, q13, q8] at hK
                      clear hA
                      have hxx := HXS.out
                      go_simp
                      exact hK _ _ ⟨_, rfl, Below.refl _ _, hR, rfl⟩
                    refine Ord.each_cons (fun D xs wz hD hC hP hR hA K hK => ?_) ?_
                    · -- 15
                      have q8 := Ord.ahead_get _ hA 8 (by decide)
                      simp only [RF3] at q8
                      have q14 := Ord.ahead_get _ hA 14 (by decide)
                      simp only [RF3] at q14
                      simp only [q8, q14] at hK
                      clear hA
                      go_simp
                      exact hK _ _ ⟨_, rfl, Below.refl _ _, hR, rfl⟩
                    exact Ord.each_nil
                  case hend22n =>
                    intro D2 xs2 wz hR2 hF2
                    have e15 := (hF2 15 (by decide)).2
                    simp only [RF3] at e15
                    rw [e15]
                    have HBZ := Lib.hid (HBW.out.trans (hR2.mono HBW.out.size))
                    have hran := hR2.block R (lt_of_block HAN.out)
                    rw [HAN.out] at hran
                    have HRZ := Lib.hid hran
                    have HBZ2 := Lib.hid hR2
                    clear e15 hF2 hR2 hran
                    generalize xs2 0 = y0 at *
                    generalize xs2 1 = y1 at *
                    generalize xs2 2 = y2 at *
                    generalize xs2 3 = y3 at *
                    generalize xs2 4 = y4 at *
                    generalize xs2 5 = y5 at *
                    generalize xs2 6 = y6 at *
                    generalize xs2 7 = y7 at *
                    generalize xs2 8 = y8 at *
                    generalize xs2 9 = y9 at *
                    generalize xs2 10 = y10 at *
                    generalize xs2 11 = y11 at *
                    generalize xs2 12 = y12 at *
                    generalize xs2 13 = y13 at *
                    generalize xs2 14 = y14 at *
                    have HV : Hid (rr = (Sl.none_, 4)) := by
                      show rr = _
                      rw [HRR.out]
                      exact Sl.readR_bad (fun hg => HFN.out (Sl.is_of_good hg HSMB.out).2.2.2)
                    obtain ⟨f0, f1, f2, f3⟩ : _ ∧ _ ∧ _ ∧ _ := ⟨four_free HRZ.out 0, four_free HRZ.out 1, four_free HRZ.out 2, four_free HRZ.out 3⟩
                    obtain ⟨g0, g1, g2, g3⟩ := four_cell HRZ.out
                    obtain ⟨d1, d2⟩ := set4all (x := .int .u8 0) (y := .int .u32 0) (z := nilS) (u := nilS) HRZ.out
                    obtain ⟨r0, r1, r2, r3⟩ := four_cell d1
                    have D2 := Lib.hid d2
                    have D3 := Lib.hid (below_grown HBZ.out d2 HBZ.out.size (by have := HRE.out; omega))
                    clear d1 d2
                    go_wp2_with fail
                    refine bodyPost_ret (v := .tuple #[SlV 0 0 nilS nilS, .int .i64 4]) (by simp [results, Try.results18, go_sem, r0, r1, r2, r3]) rfl ?_
                    refine ⟨nilS, nilS, by rw [HV.out]; rfl, ?_, D3.out⟩
                    rw [HV.out]
                    exact slat_none' _
              · rw [Sl.may_false hmy] at HMA
                have HMY : Hid (¬ Sl.May (Sl.sof b)) := hmy
                clear hmy hkv hnv
                go_upto_region 22 with (fail)
                refine Ord.walk (RF2 B (SlV kd nx (.slice pf (FB (Sl.fl b j)).length cf) (.slice pd nd' cd))) (fun _ _ w' => Below wr.heap.size wr w') (fun _ _ => True)
                  (by kernel_rfl) (by kernel_rfl) ?fr22m ?hfr22m (fun _ _ _ _ _ h => h) (fun xs => (Below.refl _ _).go1) ?he22m ?hend22m
                case hfr22m =>
                  intro xs
                  simp only [Ord.fill, Act.put, List.setIfInBounds_toArray, List.set_cons_zero, List.set_cons_succ]
                  rfl
                case he22m =>
                  refine Ord.each_cons (fun D xs wz hD hC hP hR hA K hK => ?_) ?_
                  · -- 0
                    clear hA
                    go_simp
                    exact hK _ _ ⟨_, rfl, trivial, hR, rfl⟩
                  refine Ord.each_cons (fun D xs wz hD hC hP hR hA K hK => ?_) ?_
                  · -- 1
                    have q0 := Ord.ahead_get _ hA 0 (by decide)
                    simp only [RF2] at q0
                    simp only [q0] at hK
                    clear hA
                    have c0 := hR.cell (p := ⟨B, 1, none⟩) HBL.out
                    rw [HCB.out] at c0
                    go_simp
                    exact hK _ _ ⟨_, rfl, trivial, hR, rfl⟩
                  refine Ord.each_cons (fun D xs wz hD hC hP hR hA K hK => ?_) ?_
                  · -- 2
                    have q1 := Ord.ahead_get _ hA 1 (by decide)
                    simp only [RF2] at q1
                    simp only [q1] at hK
                    clear hA
                    go_simp
                    exact hK _ _ ⟨_, rfl, trivial, hR, rfl⟩
                  refine Ord.each_cons (fun D xs wz hD hC hP hR hA K hK => ?_) ?_
                  · -- 3
                    have q2 := Ord.ahead_get _ hA 2 (by decide)
                    simp only [RF2] at q2
                    simp only [q2] at hK
                    clear hA
                    go_simp
                    exact hK _ _ ⟨_, rfl, trivial, hR, rfl⟩
                  refine Ord.each_cons (fun D xs wz hD hC hP hR hA K hK => ?_) ?_
                  · -- 4
                    have q3 := Ord.ahead_get _ hA 3 (by decide)
                    simp only [RF2] at q3
                    simp only [q3] at hK
                    clear hA
                    have c0 := hR.cell (p := ⟨X, 0, none⟩) HXL.out
                    rw [(four_cell HXB.out).1] at c0
                    have c1 := hR.cell (p := ⟨X, 1, none⟩) HXL.out
                    rw [(four_cell HXB.out).2.1] at c1
                    have c2 := hR.cell (p := ⟨X, 2, none⟩) HXL.out
                    rw [(four_cell HXB.out).2.2.1] at c2
                    have c3 := hR.cell (p := ⟨X, 3, none⟩) HXL.out
                    rw [(four_cell HXB.out).2.2.2] at c3
                    go_simp
                    exact hK _ _ ⟨_, rfl, trivial, hR, rfl⟩
                  refine Ord.each_cons (fun D xs wz hD hC hP hR hA K hK => ?_) ?_
                  · -- 5
                    have q4 := Ord.ahead_get _ hA 4 (by decide)
                    simp only [RF2] at q4
                    have q3 := Ord.ahead_get _ hA 3 (by decide)
                    simp only [RF2] at q3
                    simp only [q4, q3] at hK
                    clear hA
                    go_simp
                    refine (HMA.out wz hR).mono ?_
                    rintro e w' ⟨rfl, hb⟩
                    exact hK _ _ ⟨_, rfl, trivial, hR.trans (hb.mono hR.size), rfl⟩
                  refine Ord.each_cons (fun D xs wz hD hC hP hR hA K hK => ?_) ?_
                  · -- 6
                    have q5 := Ord.ahead_get _ hA 5 (by decide)
                    simp only [RF2] at q5
                    have q3 := Ord.ahead_get _ hA 3 (by decide)
                    simp only [RF2] at q3
                    simp only [q5, q3] at hK
                    clear hA
                    go_simp
                    exact hK _ _ ⟨_, rfl, trivial, hR, rfl⟩
                  refine Ord.each_cons (fun D xs wz hD hC hP hR hA K hK => ?_) ?_
                  · -- 7
                    have q3 := Ord.ahead_get _ hA 3 (by decide)
                    simp only [RF2] at q3
                    have q6 := Ord.ahead_get _ hA 6 (by decide)
                    simp only [RF2] at q6
                    simp only [q3, q6] at hK
                    clear hA
                    go_simp
                    exact hK _ _ ⟨_, rfl, trivial, hR, rfl⟩
                  refine Ord.each_cons (fun D xs wz hD hC hP hR hA K hK => ?_) ?_
                  · -- 8
                    have q7 := Ord.ahead_get _ hA 7 (by decide)
                    simp only [RF2] at q7
                    simp only [q7] at hK
                    clear hA
                    go_simp
                    exact hK _ _ ⟨_, rfl, trivial, hR, rfl⟩
                  refine Ord.each_cons (fun D xs wz hD hC hP hR hA K hK => ?_) ?_
                  · -- 9
                    have q8 := Ord.ahead_get _ hA 8 (by decide)
                    simp only [RF2] at q8
                    simp only [q8] at hK
                    clear hA
                    go_simp
                    exact hK _ _ ⟨_, rfl, trivial, hR, rfl⟩
                  refine Ord.each_cons (fun D xs wz hD hC hP hR hA K hK => ?_) ?_
                  · -- 10
                    have q8 := Ord.ahead_get _ hA 8 (by decide)
                    simp only [RF2] at q8
                    simp only [q8] at hK
                    clear hA
                    go_simp
                    exact hK _ _ ⟨_, rfl, trivial, hR, rfl⟩
                  refine Ord.each_cons (fun D xs wz hD hC hP hR hA K hK => ?_) ?_
                  · -- 11
                    have q8 := Ord.ahead_get _ hA 8 (by decide)
                    simp only [RF2] at q8
                    simp only [q8] at hK
                    clear hA
                    go_simp
                    exact hK _ _ ⟨_, rfl, trivial, hR, rfl⟩
                  refine Ord.each_cons (fun D xs wz hD hC hP hR hA K hK => ?_) ?_
                  · -- 12
                    have q8 := Ord.ahead_get _ hA 8 (by decide)
                    simp only [RF2] at q8
                    simp only [q8] at hK
                    clear hA
                    go_simp
                    exact hK _ _ ⟨_, rfl, trivial, hR, rfl⟩
                  refine Ord.each_cons (fun D xs wz hD hC hP hR hA K hK => ?_) ?_
                  · -- 13
                    have q8 := Ord.ahead_get _ hA 8 (by decide)
                    simp only [RF2] at q8
                    simp only [q8] at hK
                    clear hA
                    go_simp
                    exact hK _ _ ⟨_, rfl, trivial, hR, rfl⟩
                  refine Ord.each_cons (fun D xs wz hD hC hP hR hA K hK => ?_) ?_
                  · -- 14
                    have q8 := Ord.ahead_get _ hA 8 (by decide)
                    simp only [RF2] at q8
                    simp only [q8] at hK
                    clear hA
                    go_simp
                    exact hK _ _ ⟨_, rfl, trivial, hR, rfl⟩
                  refine Ord.each_cons (fun D xs wz hD hC hP hR hA K hK => ?_) ?_
                  · -- 15
                    have q8 := Ord.ahead_get _ hA 8 (by decide)
                    simp only [RF2] at q8
                    simp only [q8] at hK
                    clear hA
                    go_simp
                    exact hK _ _ ⟨_, rfl, trivial, hR, rfl⟩
                  exact Ord.each_nil
                case hend22m =>
                  intro D2 xs2 wz hR2 hF2
                  have e15 := (hF2 15 (by decide)).2
                  simp only [RF2] at e15
                  rw [e15]
                  have HBZ := Lib.hid (HBW.out.trans (hR2.mono HBW.out.size))
                  have hran := hR2.block R (lt_of_block HAN.out)
                  rw [HAN.out] at hran
                  have HRZ := Lib.hid hran
                  have HBZ2 := Lib.hid hR2
                  clear e15 hF2 hR2 hran
                  generalize xs2 0 = y0 at *
                  generalize xs2 1 = y1 at *
                  generalize xs2 2 = y2 at *
                  generalize xs2 3 = y3 at *
                  generalize xs2 4 = y4 at *
                  generalize xs2 5 = y5 at *
                  generalize xs2 6 = y6 at *
                  generalize xs2 7 = y7 at *
                  generalize xs2 8 = y8 at *
                  generalize xs2 9 = y9 at *
                  generalize xs2 10 = y10 at *
                  generalize xs2 11 = y11 at *
                  generalize xs2 12 = y12 at *
                  generalize xs2 13 = y13 at *
                  generalize xs2 14 = y14 at *
                  have HV : Hid (rr = (Sl.none_, 4)) := by
                    show rr = _
                    rw [HRR.out]
                    exact Sl.readR_bad (fun hg => HMY.out (Sl.is_of_good hg HSMB.out).1)
                  obtain ⟨f0, f1, f2, f3⟩ : _ ∧ _ ∧ _ ∧ _ := ⟨four_free HRZ.out 0, four_free HRZ.out 1, four_free HRZ.out 2, four_free HRZ.out 3⟩
                  obtain ⟨g0, g1, g2, g3⟩ := four_cell HRZ.out
                  obtain ⟨d1, d2⟩ := set4all (x := .int .u8 0) (y := .int .u32 0) (z := nilS) (u := nilS) HRZ.out
                  obtain ⟨r0, r1, r2, r3⟩ := four_cell d1
                  have D2 := Lib.hid d2
                  have D3 := Lib.hid (below_grown HBZ.out d2 HBZ.out.size (by have := HRE.out; omega))
                  clear d1 d2
                  go_wp2_with fail
                  refine bodyPost_ret (v := .tuple #[SlV 0 0 nilS nilS, .int .i64 4]) (by simp [results, Try.results18, go_sem, r0, r1, r2, r3]) rfl ?_
                  refine ⟨nilS, nilS, by rw [HV.out]; rfl, ?_, D3.out⟩
                  rw [HV.out]
                  exact slat_none' _
            · have he4 : ee = 4 := by rw [HEE.out]; exact if_neg h7
              subst he4
              have HN7 : Hid (247 < n) := by show 247 < n; omega
              clear h7
              go_upto_region 22 with (fail)
              refine Ord.walk (RF1 B) (fun _ _ w' => Below wr.heap.size wr w') (fun _ _ => True)
                (by kernel_rfl) (by kernel_rfl) ?fr22e ?hfr22e (fun _ _ _ _ _ h => h) (fun xs => (Below.refl _ _).go1) ?he22e ?hend22e
              case hfr22e =>
                intro xs
                simp only [Ord.fill, Act.put, List.setIfInBounds_toArray, List.set_cons_zero, List.set_cons_succ]
                rfl
              case he22e =>
                refine Ord.each_cons (fun D xs wz hD hC hP hR hA K hK => ?_) ?_
                · -- 0
                  clear hA
                  go_simp
                  exact hK _ _ ⟨_, rfl, trivial, hR, rfl⟩
                refine Ord.each_cons (fun D xs wz hD hC hP hR hA K hK => ?_) ?_
                · -- 1
                  have q0 := Ord.ahead_get _ hA 0 (by decide)
                  simp only [RF1] at q0
                  simp only [q0] at hK
                  clear hA
                  have c0 := hR.cell (p := ⟨B, 1, none⟩) HBL.out
                  rw [HCB.out] at c0
                  go_simp
                  exact hK _ _ ⟨_, rfl, trivial, hR, rfl⟩
                refine Ord.each_cons (fun D xs wz hD hC hP hR hA K hK => ?_) ?_
                · -- 2
                  have q1 := Ord.ahead_get _ hA 1 (by decide)
                  simp only [RF1] at q1
                  simp only [q1] at hK
                  clear hA
                  go_simp
                  exact hK _ _ ⟨_, rfl, trivial, hR, rfl⟩
                refine Ord.each_cons (fun D xs wz hD hC hP hR hA K hK => ?_) ?_
                · -- 3
                  have q2 := Ord.ahead_get _ hA 2 (by decide)
                  simp only [RF1] at q2
                  simp only [q2] at hK
                  clear hA
                  go_simp
                  exact hK _ _ ⟨_, rfl, trivial, hR, rfl⟩
                refine Ord.each_cons (fun D xs wz hD hC hP hR hA K hK => ?_) ?_
                · -- 4
                  have q3 := Ord.ahead_get _ hA 3 (by decide)
                  simp only [RF1] at q3
                  simp only [q3] at hK
                  clear hA
                  go_simp
                  exact hK _ _ ⟨_, rfl, trivial, hR, rfl⟩
                refine Ord.each_cons (fun D xs wz hD hC hP hR hA K hK => ?_) ?_
                · -- 5
                  have q3 := Ord.ahead_get _ hA 3 (by decide)
                  simp only [RF1] at q3
                  simp only [q3] at hK
                  clear hA
                  go_simp
                  exact hK _ _ ⟨_, rfl, trivial, hR, rfl⟩
                refine Ord.each_cons (fun D xs wz hD hC hP hR hA K hK => ?_) ?_
                · -- 6
                  have q3 := Ord.ahead_get _ hA 3 (by decide)
                  simp only [RF1] at q3
                  simp only [q3] at hK
                  clear hA
                  go_simp
                  exact hK _ _ ⟨_, rfl, trivial, hR, rfl⟩
                refine Ord.each_cons (fun D xs wz hD hC hP hR hA K hK => ?_) ?_
                · -- 7
                  have q3 := Ord.ahead_get _ hA 3 (by decide)
                  simp only [RF1] at q3
                  simp only [q3] at hK
                  clear hA
                  go_simp
                  exact hK _ _ ⟨_, rfl, trivial, hR, rfl⟩
                refine Ord.each_cons (fun D xs wz hD hC hP hR hA K hK => ?_) ?_
                · -- 8
                  have q7 := Ord.ahead_get _ hA 7 (by decide)
                  simp only [RF1] at q7
                  simp only [q7] at hK
                  clear hA
                  go_simp
                  exact hK _ _ ⟨_, rfl, trivial, hR, rfl⟩
                refine Ord.each_cons (fun D xs wz hD hC hP hR hA K hK => ?_) ?_
                · -- 9
                  have q8 := Ord.ahead_get _ hA 8 (by decide)
                  simp only [RF1] at q8
                  simp only [q8] at hK
                  clear hA
                  go_simp
                  exact hK _ _ ⟨_, rfl, trivial, hR, rfl⟩
                refine Ord.each_cons (fun D xs wz hD hC hP hR hA K hK => ?_) ?_
                · -- 10
                  have q8 := Ord.ahead_get _ hA 8 (by decide)
                  simp only [RF1] at q8
                  simp only [q8] at hK
                  clear hA
                  go_simp
                  exact hK _ _ ⟨_, rfl, trivial, hR, rfl⟩
                refine Ord.each_cons (fun D xs wz hD hC hP hR hA K hK => ?_) ?_
                · -- 11
                  have q8 := Ord.ahead_get _ hA 8 (by decide)
                  simp only [RF1] at q8
                  simp only [q8] at hK
                  clear hA
                  go_simp
                  exact hK _ _ ⟨_, rfl, trivial, hR, rfl⟩
                refine Ord.each_cons (fun D xs wz hD hC hP hR hA K hK => ?_) ?_
                · -- 12
                  have q8 := Ord.ahead_get _ hA 8 (by decide)
                  simp only [RF1] at q8
                  simp only [q8] at hK
                  clear hA
                  go_simp
                  exact hK _ _ ⟨_, rfl, trivial, hR, rfl⟩
                refine Ord.each_cons (fun D xs wz hD hC hP hR hA K hK => ?_) ?_
                · -- 13
                  have q8 := Ord.ahead_get _ hA 8 (by decide)
                  simp only [RF1] at q8
                  simp only [q8] at hK
                  clear hA
                  go_simp
                  exact hK _ _ ⟨_, rfl, trivial, hR, rfl⟩
                refine Ord.each_cons (fun D xs wz hD hC hP hR hA K hK => ?_) ?_
                · -- 14
                  have q8 := Ord.ahead_get _ hA 8 (by decide)
                  simp only [RF1] at q8
                  simp only [q8] at hK
                  clear hA
                  go_simp
                  exact hK _ _ ⟨_, rfl, trivial, hR, rfl⟩
                refine Ord.each_cons (fun D xs wz hD hC hP hR hA K hK => ?_) ?_
                · -- 15
                  have q8 := Ord.ahead_get _ hA 8 (by decide)
                  simp only [RF1] at q8
                  simp only [q8] at hK
                  clear hA
                  go_simp
                  exact hK _ _ ⟨_, rfl, trivial, hR, rfl⟩
                exact Ord.each_nil
              case hend22e =>
                intro D2 xs2 wz hR2 hF2
                have e15 := (hF2 15 (by decide)).2
                simp only [RF1] at e15
                rw [e15]
                have HBZ := Lib.hid (HBW.out.trans (hR2.mono HBW.out.size))
                have hran := hR2.block R (lt_of_block HAN.out)
                rw [HAN.out] at hran
                have HRZ := Lib.hid hran
                have HBZ2 := Lib.hid hR2
                clear e15 hF2 hR2 hran
                generalize xs2 0 = y0 at *
                generalize xs2 1 = y1 at *
                generalize xs2 2 = y2 at *
                generalize xs2 3 = y3 at *
                generalize xs2 4 = y4 at *
                generalize xs2 5 = y5 at *
                generalize xs2 6 = y6 at *
                generalize xs2 7 = y7 at *
                generalize xs2 8 = y8 at *
                generalize xs2 9 = y9 at *
                generalize xs2 10 = y10 at *
                generalize xs2 11 = y11 at *
                generalize xs2 12 = y12 at *
                generalize xs2 13 = y13 at *
                generalize xs2 14 = y14 at *
                have HV : Hid (rr = (Sl.none_, 4)) := by
                  show rr = _
                  rw [HRR.out]
                  exact Sl.readR_bad (fun hg => by have h1 := hg.most; have h2 := HN7.out; have h3 := HNN.out; omega)
                obtain ⟨f0, f1, f2, f3⟩ : _ ∧ _ ∧ _ ∧ _ := ⟨four_free HRZ.out 0, four_free HRZ.out 1, four_free HRZ.out 2, four_free HRZ.out 3⟩
                obtain ⟨g0, g1, g2, g3⟩ := four_cell HRZ.out
                obtain ⟨d1, d2⟩ := set4all (x := .int .u8 0) (y := .int .u32 0) (z := nilS) (u := nilS) HRZ.out
                obtain ⟨r0, r1, r2, r3⟩ := four_cell d1
                have D2 := Lib.hid d2
                have D3 := Lib.hid (below_grown HBZ.out d2 HBZ.out.size (by have := HRE.out; omega))
                clear d1 d2
                go_wp2_with fail
                refine bodyPost_ret (v := .tuple #[SlV 0 0 nilS nilS, .int .i64 4]) (by simp [results, Try.results18, go_sem, r0, r1, r2, r3]) rfl ?_
                refine ⟨nilS, nilS, by rw [HV.out]; rfl, ?_, D3.out⟩
                rw [HV.out]
                exact slat_none' _
      clear hKK
      obtain ⟨k, hk, hk8, rfl, hm⟩ := hrel
      have HM := Lib.hid hm
      clear hm
      by_cases hlt : k < n
      · have hi : (k : Int) < (n : Int) := by omega
        have hcE : wr.cell? ⟨B, 1, none⟩ = some (.int .i64 (Sl.ste k : Nat)) := by
          obtain ⟨s, hS⟩ := HM.out.rd
          exact cell2_1 hS.1
        by_cases h7 : k ≤ 247
        · rw [show Sl.ste k = 0 from if_pos h7] at hcE
          have hw5 := IntWalk.i64_in ((k : Int) + 1) (by omega)
          have hmk : Sl.mkk b k < 65536 := Sl.mkk_lt HSMB.out k
          have hnu := refNum_any _ B _ 2 _ wr HM.out.rd (by decide) (by decide)
          rw [Sl.rd_mark H500.out k] at hnu
          dsimp only at hnu
          obtain ⟨mv, hmv⟩ : ∃ mv, mv = Sl.mkk b k := ⟨_, rfl⟩
          rw [← hmv] at hnu hmk
          have HMV := Lib.hid hmv
          have HMK := Lib.hid hmk
          have hwm : IntKind.i64.wrap (mv : Int) = (mv : Int) := IntWalk.i64_in _ (by omega)
          have HNU := Lib.hid hnu
          have HLT := Lib.hid hlt
          have H7 := Lib.hid h7
          clear hnu hmv hmk hlt h7 TAIL
          go_wp2_with fail
          refine HNU.out.mono ?_
          rintro e w8 ⟨rfl, hr8, hg8⟩
          have hx8 := hg8.block X (lt_of_block HM.out.blk) (fun e => by simp only [Option.some.injEq] at e; have := HBX.out; omega)
          rw [HM.out.blk] at hx8
          have ha8 := hg8.block R (lt_of_block HM.out.ans) (fun e => by simp only [Option.some.injEq] at e; have := HRB.out; omega)
          rw [HM.out.ans] at ha8
          have hb8 := below_grown HM.out.bel hg8 HM.out.bel.size (by have h1 := HRE.out; have h2 := HRB.out; omega)
          have ho8 : Ints.Own (X + 1) w8 u7 (Sl.mkl b k) := HM.out.own.grown hg8 (by
            cases hv : Value.ownBlock u7 with
            | none => exact Or.inl rfl
            | some g =>
              refine Or.inr fun e => ?_
              have h1 := (HM.out.own.own.lt g hv).1
              simp only [Option.some.injEq] at e
              have h3 := HBX.out
              omega)
          have HR8 := Lib.hid hr8
          have HX8 := Lib.hid hx8
          have HA8 := Lib.hid ha8
          have HB8 := Lib.hid hb8
          have HO8 := Lib.hid ho8
          clear hr8 hg8 hx8 ha8 hb8 ho8 HNU hcE
          dsimp only
          go_at_K
          iterate 7 go_step
          refine Ints.wpList_append_byte rfl (.tmp 35) (.tmp 38) rfl (X + 1) u7 (Sl.mkl b k) rfl HO8.out rfl (mv : Int) (okk_mark HMK.out) (by rw [Sl.mkl_length]; have := H7.out; omega) (by have := lt_of_block HX8.out; omega) ?_
          intro v9 w9 ho9 hb9
          rw [HMV.out, ← Sl.mkl_succ] at ho9
          have HM9 : Hid (MrkD w R B X (.int .u8 (kd : Int)) (.int .u32 (nx : Int)) v9 b (k + 1) w9) := by
            have hbw := HB8.out.trans (hb9.mono (by have h1 := HRE.out; have h2 := HRB.out; have h3 := HBX.out; omega))
            refine ⟨?_, by rw [hb9.block R (by have h2 := HRB.out; have h3 := HBX.out; omega)]; exact HA8.out, by rw [hb9.block X (by omega)]; exact HX8.out, ho9, hbw, HRE.out, HRB.out, HBX.out⟩
            obtain ⟨s, h1, h2, h3, h4⟩ := HR8.out
            exact ⟨s, by rw [hb9.block B (by have h3 := HBX.out; omega)]; exact h1, (bts_back h2 HB8.out h4).below hbw, h3, h4⟩
          clear ho9 hb9
          go_wp2_with fail
          go_roundw
          case rel => exact ⟨k + 1, by have := HLT.out; omega, by have := H7.out; omega, by go_num, HM9.out⟩
          case measure => have := HLT.out; simp [intOf]; omega
        · rw [show Sl.ste k = 4 from if_neg h7] at hcE
          have HE7 : Hid (k = 248) := by show k = 248; omega
          go_wp2_with fail
          exact TAIL k _ hk (Or.inr HE7.out) hk8 HM.out
      · have hi : ¬ (k : Int) < (n : Int) := by omega
        go_wp2_with fail
        exact TAIL k _ hk (Or.inl (by omega)) hk8 HM.out
  · have hi1 : ((b.length : Int) != 500) = true := by simp; omega
    have H500 : Hid (¬ b.length = 500) := h500
    clear h500
    have HV : Hid (rr = (Sl.none_, 4)) := by
      show rr = _
      rw [HRR.out]
      exact Sl.readR_bad (fun hg => H500.out hg.len)
    obtain ⟨f0, f1, f2, f3⟩ : _ ∧ _ ∧ _ ∧ _ := ⟨four_free HRV.out 0, four_free HRV.out 1, four_free HRV.out 2, four_free HRV.out 3⟩
    obtain ⟨g0, g1, g2, g3⟩ := four_cell HRV.out
    obtain ⟨d1, d2⟩ := set4all (x := .int .u8 0) (y := .int .u32 0) (z := nilS) (u := nilS) HRV.out
    obtain ⟨r0, r1, r2, r3⟩ := four_cell d1
    have D2 := Lib.hid d2
    have D3 := Lib.hid (below_grown HBV.out d2 HBV.out.size (by have := HRE.out; omega))
    clear d1 d2
    go_wp2_with fail
    refine bodyPost_ret (v := .tuple #[SlV 0 0 nilS nilS, .int .i64 4]) (by simp [results, Try.results18, go_sem, r0, r1, r2, r3]) rfl ?_
    refine ⟨nilS, nilS, by rw [HV.out]; rfl, ?_, D3.out⟩
    rw [HV.out]
    exact slat_none' _
end Go.Proofs.Ytbfpmpomcaijcaa
