/- Numbers and texts, put behind any bytes, are the document's forms; what is handed in stays, and what is answered is new memory. Conditions: the slices' cells hold the bytes; the room. -/
import Derived.Test.YtpakohlniaiclaaCodeKnown
import Derived.Test.YtpakohlniaiclaaOff
import Derived.Test.YtpakohlniaiclaaOrd
import Derived.Outline
namespace Go.Proofs.Ytpakohlniaiclaa
open Go.RowKit

theorem Cod.le_mod : ∀ (k n : Nat), Cod.le k (n % 256 ^ k) = Cod.le k n
  | 0, _ => rfl
  | k + 1, n => by
    have e1 : n % 256 ^ (k + 1) % 256 = n % 256 := by rw [Nat.pow_succ]; exact Nat.mod_mul_left_mod _ _ _
    have e2 : n % 256 ^ (k + 1) / 256 = n / 256 % 256 ^ k := by rw [Nat.pow_succ, Nat.mul_comm]; exact Nat.mod_mul_right_div_self _ _ _
    rw [Cod.le, Cod.le, e1, e2, Cod.le_mod k]

/-- The forms, in the statement's order. -/
def Fm (n : Nat) (s : List Nat) : Nat → List Nat
  | 0 => Cod.le 2 n
  | 1 => Cod.le 4 n
  | 2 => Cod.le 8 n
  | 3 => Cod.uv n
  | _ => Cod.uv s.length ++ s

theorem all5 {P : Nat → Prop} (h0 : P 0) (h1 : P 1) (h2 : P 2) (h3 : P 3) (h4 : P 4) : ∀ j, j < 5 → P j := by
  intro j hj
  match j, hj with
  | 0, _ => exact h0
  | 1, _ => exact h1
  | 2, _ => exact h2
  | 3, _ => exact h3
  | 4, _ => exact h4

structure Put (base : Nat) (w : World) (l : List Nat) (g N cap : Nat) : Prop where
  n : N = l.length
  lo : base ≤ g
  hi : g < w.heap.size
  nc : N ≤ cap ∧ cap ≤ 9223372036854775807
  row : Row w g N
  bts : Bts w (.slice (some ⟨g, 0, none⟩) N cap) l

theorem put_of {base : Nat} {w : World} {v : Value} {l : List Nat} (h : Own base w v l) (h0 : 0 < l.length) : ∃ g N cap, v = .slice (some ⟨g, 0, none⟩) N cap ∧ Put base w l g N cap := by
  obtain ⟨g, cap, rfl, h1, h2, h3, h4, h5⟩ := own_some h h0
  exact ⟨g, _, cap, rfl, rfl, h1, h2, ⟨h3, h4⟩, h5, h.bts⟩

theorem Put.below {base : Nat} {w w' : World} {l : List Nat} {g N cap : Nat} (h : Put base w l g N cap) (hb : Below w.heap.size w w') : Put base w' l g N cap :=
  ⟨h.n, h.lo, Nat.lt_of_lt_of_le h.hi hb.size, h.nc, h.row.below hb, h.bts.below hb⟩

theorem pos_app {b f : List Nat} (h : 0 < f.length) : 0 < (b ++ f).length := by rw [List.length_append]; omega

/-- What stands there when all is put, and told. -/
structure PutsSet (W0 : World) (s0 Lb Wb : Nat) (b : List Nat) (F : Nat → List Nat) (G N C : Nat → Nat) (U : Nat → Value) : Prop where
  cl : ∀ j, j < 5 → W0.cell? ⟨Lb, j, none⟩ = some (.slice (some ⟨G j, 0, none⟩) (N j) (C j))
  cu : ∀ j, j < 5 → W0.cell? ⟨Wb, j, none⟩ = some (U j)
  ub : ∀ j, j < 5 → Bts W0 (U j) (F j)
  uo : ∀ j, j < 5 → ∀ x, (U j).ownBlock = some x → Lb < x
  vb : ∀ j, j < 5 → Bts W0 (.slice (some ⟨G j, 0, none⟩) (N j) (C j)) (b ++ F j)
  vr : ∀ j, j < 5 → Row W0 (G j) (N j)
  nc : ∀ j, j < 5 → N j ≤ C j ∧ C j ≤ 9223372036854775807
  nl : ∀ j, j < 5 → N j = (b ++ F j).length
  gi : ∀ i j, i < j → j < 5 → G i < G j
  gl : ∀ j, j < 5 → s0 ≤ G j ∧ G j < Lb
  lw : Lb < Wb

/-- What the operations of a round's comparison leave. -/
def PutF (Lb Wb k Gk Nk Ck Nu Cu Np Cp : Nat) (pu pb : Option Addr) (S : ByteArray) (i : Nat) (v : Value) (_ : World) : Prop :=
  match i with
  | 0 => v = .slice (some ⟨Lb, 0, none⟩) 5 5
  | 1 => v = .int .i64 (k : Int)
  | 2 => v = .pointer (some ⟨Lb, k, none⟩)
  | 3 => v = .slice (some ⟨Gk, 0, none⟩) Nk Ck
  | 4 => v = .string S
  | 5 => True
  | 6 => v = .slice pb Np Cp
  | 7 => True
  | 8 => v = .slice (some ⟨Wb, 0, none⟩) 5 5
  | 9 => v = .int .i64 (k : Int)
  | 10 => v = .pointer (some ⟨Wb, k, none⟩)
  | 11 => v = .slice pu Nu Cu
  | 12 => True
  | 13 => v = .string S
  | _ => v = .bool false

def PutR (W : World) (b f : List Nat) (D : Nat → Bool) (xs : Nat → Value) (w : World) : Prop :=
  Below W.heap.size W w ∧ (D 5 = true → D 7 = false → Own W.heap.size w (xs 5) []) ∧ (D 7 = true → D 12 = false → Own W.heap.size w (xs 7) b) ∧ (D 12 = true → Own W.heap.size w (xs 12) (b ++ f))

theorem putR_step {W : World} {b f : List Nat} {D : Nat → Bool} {xs : Nat → Value} {w : World} {v : Value} (h : PutR W b f D xs w) (k : Nat) (h5 : k ≠ 5) (h7 : k ≠ 7) (h12 : k ≠ 12) : PutR W b f (Ord.wth D k) (Ord.set xs k v) w := by
  obtain ⟨r1, r2, r3, r4⟩ := h
  have g : ∀ j, k ≠ j → Ord.wth D k j = D j ∧ Ord.set xs k v j = xs j := fun j hj => by
    unfold Ord.wth Ord.set
    exact ⟨if_neg (Ne.symm hj), if_neg (Ne.symm hj)⟩
  unfold PutR
  rw [(g 5 h5).1, (g 7 h7).1, (g 12 h12).1, (g 5 h5).2, (g 7 h7).2, (g 12 h12).2]
  exact ⟨r1, r2, r3, r4⟩

set_option maxHeartbeats 6400000 in
set_option maxRecDepth 20000 in
theorem puts_any (v1 v2 : Value) (b s : List Nat) (n : Nat) (w : World) (hB : Bts w v1 b) (hS : Bts w v2 s) (hn : n < 18446744073709551616) (hb : b.length ≤ 1048576) (hs : s.length ≤ 1048576) :
    Calls Try.prog 3 #[v1, v2, .int .u64 (n : Int)] w fun e w' => e = .returned (.bool true) ∧ Below w.heap.size w w' := by
  have HS := Lib.hid hS
  have HB := Lib.hid hB
  have HN := Lib.hid hn
  obtain ⟨p1, cap1, rfl, -, -, -⟩ := hB.form
  obtain ⟨p2, cap2, rfl, -, -, -⟩ := hS.form
  have hU1 := Cod.uv_ten hn
  have hU2 := Cod.uv_ten (n := s.length) (by omega)
  have hP1 := Cod.uv_pos n
  have hP2 := Cod.uv_pos s.length
  obtain ⟨m16, hm16⟩ : ∃ m, m = n % 65536 := ⟨_, rfl⟩
  obtain ⟨m32, hm32⟩ : ∃ m, m = n % 4294967296 := ⟨_, rfl⟩
  have hw16 : IntKind.u16.wrap (n : Int) = (m16 : Int) := by
    rw [show IntKind.u16.wrap (n : Int) = (n : Int) % 65536 by simp [IntKind.wrap, IntKind.bits, IntKind.signed]]
    omega
  have hw32 : (n : Int) % 4294967296 = (m32 : Int) := by omega
  have HE16 : Hid (Cod.le 2 m16 = Cod.le 2 n) := by rw [hm16]; exact Cod.le_mod 2 n
  have HE32 : Hid (Cod.le 4 m32 = Cod.le 4 n) := by rw [hm32]; exact Cod.le_mod 4 n
  clear hS hB hn hm16 hm32
  go_enter Try.func3, Try.ntmps3
  go_wp2_with fail
  refine (lent_any _ b _ HB.out (by omega)).mono ?_
  rintro e w1 ⟨g1, c1, rfl, hL1⟩
  have L1 := Lib.hid hL1
  clear hL1
  go_wp2_with fail
  refine (lent_any _ s _ (HS.out.below L1.out.below) (by omega)).mono ?_
  rintro e w2 ⟨g2, c2, rfl, hL2⟩
  have L2 := Lib.hid hL2
  have L12 := Lib.hid (L1.out.later hL2.below)
  have HX2 := Lib.hid (L12.out.bts HB.out.small HB.out.len)
  have HY2 := Lib.hid (L2.out.bts HS.out.small HS.out.len)
  clear hL2
  go_wp2_with fail
  refine (Put16_any _ b m16 _ HX2.out (by omega)).mono ?_
  rintro e w3 ⟨v0, rfl, hO, hb3⟩
  rw [HE16.out] at hO
  obtain ⟨G0, N0, C0, rfl, hP5⟩ := put_of hO (pos_app (by rw [Cod.le_length]; decide))
  have P0 := Lib.hid hP5
  clear hP5
  have HW3 := Lib.hid hb3
  have HX3 := Lib.hid (HX2.out.below hb3)
  clear hO hb3
  go_wp2_with fail
  refine (Put32_any _ b m32 _ HX3.out (by omega)).mono ?_
  rintro e w4 ⟨v1, rfl, hO, hb4⟩
  rw [HE32.out] at hO
  obtain ⟨G1, N1, C1, rfl, hP6⟩ := put_of hO (pos_app (by rw [Cod.le_length]; decide))
  have P1 := Lib.hid hP6
  clear hP6
  have HW4 := Lib.hid hb4
  have HX4 := Lib.hid (HX3.out.below hb4)
  clear hO hb4
  go_wp2_with fail
  refine (Put64_any _ b n _ HX4.out (by omega)).mono ?_
  rintro e w5 ⟨v2, rfl, hO, hb5⟩
  obtain ⟨G2, N2, C2, rfl, hP7⟩ := put_of hO (pos_app (by rw [Cod.le_length]; decide))
  have P2 := Lib.hid hP7
  clear hP7
  have HW5 := Lib.hid hb5
  have HX5 := Lib.hid (HX4.out.below hb5)
  clear hO hb5
  go_wp2_with fail
  refine (PutUv_any _ b n _ HX5.out HN.out (by omega)).mono ?_
  rintro e w6 ⟨v3, rfl, hO, hb6⟩
  obtain ⟨G3, N3, C3, rfl, hP8⟩ := put_of hO (pos_app hP1)
  have P3 := Lib.hid hP8
  clear hP8
  have HW6 := Lib.hid hb6
  have HX6 := Lib.hid (HX5.out.below hb6)
  have HY6 := Lib.hid ((((HY2.out.below HW3.out).below HW4.out).below HW5.out).below hb6)
  clear hO hb6
  go_wp2_with fail
  refine (PutText_any _ _ b s _ HX6.out HY6.out (by omega)).mono ?_
  rintro e w7 ⟨v4, rfl, hO, hb7⟩
  obtain ⟨G4, N4, C4, rfl, hP9⟩ := put_of hO (pos_app (by rw [List.length_append]; omega))
  have P4 := Lib.hid hP9
  clear hP9
  have HW7 := Lib.hid hb7
  clear hO hb7
  go_wp2_with fail
  have hal8 : Below w7.heap.size w7 (w7.alloc (.cells #[.slice (some ⟨G0, 0, none⟩) N0 C0, .slice (some ⟨G1, 0, none⟩) N1 C1, .slice (some ⟨G2, 0, none⟩) N2 C2, .slice (some ⟨G3, 0, none⟩) N3 C3, .slice (some ⟨G4, 0, none⟩) N4 C4] 22)) := (Below.refl _ _).alloc (Nat.le_refl _) _
  have hcl8 := heap_alloc_last w7 (.cells #[.slice (some ⟨G0, 0, none⟩) N0 C0, .slice (some ⟨G1, 0, none⟩) N1 C1, .slice (some ⟨G2, 0, none⟩) N2 C2, .slice (some ⟨G3, 0, none⟩) N3 C3, .slice (some ⟨G4, 0, none⟩) N4 C4] 22)
  have hsz8 : (w7.alloc (.cells #[.slice (some ⟨G0, 0, none⟩) N0 C0, .slice (some ⟨G1, 0, none⟩) N1 C1, .slice (some ⟨G2, 0, none⟩) N2 C2, .slice (some ⟨G3, 0, none⟩) N3 C3, .slice (some ⟨G4, 0, none⟩) N4 C4] 22)).heap.size = w7.heap.size + 1 := by simp
  have HW8 := Lib.hid hal8
  have HCL8 := Lib.hid hcl8
  have HSZ8 := Lib.hid hsz8
  clear hal8 hcl8 hsz8
  generalize (w7.alloc (.cells #[.slice (some ⟨G0, 0, none⟩) N0 C0, .slice (some ⟨G1, 0, none⟩) N1 C1, .slice (some ⟨G2, 0, none⟩) N2 C2, .slice (some ⟨G3, 0, none⟩) N3 C3, .slice (some ⟨G4, 0, none⟩) N4 C4] 22)) = w8 at HW8 HCL8 HSZ8 ⊢
  refine (refFixed_any n 2 _ (by decide)).mono ?_
  rintro e w9 ⟨u0, rfl, hO, hb9⟩
  obtain ⟨H0, M0, D0, rfl, hQ0⟩ := put_of hO (by rw [Cod.le_length]; decide)
  have Q0 := Lib.hid hQ0
  have HW9 := Lib.hid hb9
  clear hO hb9 hQ0
  go_wp2_with fail
  refine (refFixed_any n 4 _ (by decide)).mono ?_
  rintro e w10 ⟨u1, rfl, hO, hb10⟩
  obtain ⟨H1, M1, D1, rfl, hQ1⟩ := put_of hO (by rw [Cod.le_length]; decide)
  have Q1 := Lib.hid hQ1
  have HW10 := Lib.hid hb10
  clear hO hb10 hQ1
  go_wp2_with fail
  refine (refFixed_any n 8 _ (by decide)).mono ?_
  rintro e w11 ⟨u2, rfl, hO, hb11⟩
  obtain ⟨H2, M2, D2, rfl, hQ2⟩ := put_of hO (by rw [Cod.le_length]; decide)
  have Q2 := Lib.hid hQ2
  have HW11 := Lib.hid hb11
  clear hO hb11 hQ2
  go_wp2_with fail
  refine (refUv_any n _ HN.out).mono ?_
  rintro e w12 ⟨u3, rfl, hO, hb12⟩
  obtain ⟨H3, M3, D3, rfl, hQ3⟩ := put_of hO hP1
  have Q3 := Lib.hid hQ3
  have HW12 := Lib.hid hb12
  clear hO hb12 hQ3
  have HS12 := Lib.hid ((((((((((((HS.out.below L12.out.below).below HW3.out).below HW4.out).below HW5.out).below HW6.out).below HW7.out).below HW8.out).below HW9.out).below HW10.out).below HW11.out).below HW12.out))
  go_wp2_with fail
  refine (refText_any _ s _ HS12.out (by omega)).mono ?_
  rintro e w13 ⟨u4, rfl, hO, hb13⟩
  obtain ⟨H4, M4, D4, rfl, hQ4⟩ := put_of hO (by rw [List.length_append]; omega)
  have Q4 := Lib.hid hQ4
  have HW13 := Lib.hid hb13
  clear hO hb13 hQ4
  go_wp2_with fail
  have hal := (Below.refl w13.heap.size w13).alloc (Nat.le_refl _) (.cells #[.slice (some ⟨H0, 0, none⟩) M0 D0, .slice (some ⟨H1, 0, none⟩) M1 D1, .slice (some ⟨H2, 0, none⟩) M2 D2, .slice (some ⟨H3, 0, none⟩) M3 D3, .slice (some ⟨H4, 0, none⟩) M4 D4] 22)
  have hcl := heap_alloc_last w13 (.cells #[.slice (some ⟨H0, 0, none⟩) M0 D0, .slice (some ⟨H1, 0, none⟩) M1 D1, .slice (some ⟨H2, 0, none⟩) M2 D2, .slice (some ⟨H3, 0, none⟩) M3 D3, .slice (some ⟨H4, 0, none⟩) M4 D4] 22)
  have HW14 := Lib.hid hal
  have HCL := Lib.hid hcl
  clear hal hcl
  generalize (w13.alloc (.cells #[.slice (some ⟨H0, 0, none⟩) M0 D0, .slice (some ⟨H1, 0, none⟩) M1 D1, .slice (some ⟨H2, 0, none⟩) M2 D2, .slice (some ⟨H3, 0, none⟩) M3 D3, .slice (some ⟨H4, 0, none⟩) M4 D4] 22)) = W0 at HW14 HCL ⊢
  have HSET : Hid (PutsSet W0 w2.heap.size w7.heap.size w13.heap.size b (Fm n s) (fun j => [G0, G1, G2, G3, G4].getD j 0) (fun j => [N0, N1, N2, N3, N4].getD j 0) (fun j => [C0, C1, C2, C3, C4].getD j 0)
      (fun j => [Value.slice (some ⟨H0, 0, none⟩) M0 D0, .slice (some ⟨H1, 0, none⟩) M1 D1, .slice (some ⟨H2, 0, none⟩) M2 D2, .slice (some ⟨H3, 0, none⟩) M3 D3, .slice (some ⟨H4, 0, none⟩) M4 D4].getD j undef)) := by
    have b13 := HW14.out
    have b12 := HW13.out.trans (b13.mono HW13.out.size)
    have b11 := HW12.out.trans (b12.mono HW12.out.size)
    have b10 := HW11.out.trans (b11.mono HW11.out.size)
    have b9 := HW10.out.trans (b10.mono HW10.out.size)
    have b8 := HW9.out.trans (b9.mono HW9.out.size)
    have b7 := HW8.out.trans (b8.mono HW8.out.size)
    have b6 := HW7.out.trans (b7.mono HW7.out.size)
    have b5 := HW6.out.trans (b6.mono HW6.out.size)
    have b4 := HW5.out.trans (b5.mono HW5.out.size)
    have b3 := HW4.out.trans (b4.mono HW4.out.size)
    have p0 := P0.out.below b3
    have p1 := P1.out.below b4
    have p2 := P2.out.below b5
    have p3 := P3.out.below b6
    have p4 := P4.out.below b7
    have q0 := Q0.out.below b9
    have q1 := Q1.out.below b10
    have q2 := Q2.out.below b11
    have q3 := Q3.out.below b12
    have q4 := Q4.out.below b13
    have z3 := HW3.out.size
    have z4 := HW4.out.size
    have z5 := HW5.out.size
    have z6 := HW6.out.size
    have z7 := HW7.out.size
    have z8 := HSZ8.out
    have z9 := HW9.out.size
    have z10 := HW10.out.size
    have z11 := HW11.out.size
    have z12 := HW12.out.size
    have z13 := HW13.out.size
    have x0 := P0.out.hi
    have x1 := P1.out.hi
    have x2 := P2.out.hi
    have x3 := P3.out.hi
    have x4 := P4.out.hi
    have y0 := P0.out.lo
    have y1 := P1.out.lo
    have y2 := P2.out.lo
    have y3 := P3.out.lo
    have y4 := P4.out.lo
    have cl8 := b8.block w7.heap.size (by omega)
    rw [HCL8.out] at cl8
    refine ⟨all5 ?_ ?_ ?_ ?_ ?_, all5 ?_ ?_ ?_ ?_ ?_, all5 q0.bts q1.bts q2.bts q3.bts q4.bts, all5 ?_ ?_ ?_ ?_ ?_, all5 p0.bts p1.bts p2.bts p3.bts p4.bts, all5 p0.row p1.row p2.row p3.row p4.row, all5 p0.nc p1.nc p2.nc p3.nc p4.nc, all5 p0.n p1.n p2.n p3.n p4.n, ?_, all5 ?_ ?_ ?_ ?_ ?_, ?_⟩
    iterate 5 (· rw [cell_of_row _ _ _ _ _ _ cl8]; rfl)
    iterate 5 (· rw [cell_of_row _ _ _ _ _ _ HCL.out]; rfl)
    · intro x hx; cases hx; have := Q0.out.lo; show _ < H0; omega
    · intro x hx; cases hx; have := Q1.out.lo; show _ < H1; omega
    · intro x hx; cases hx; have := Q2.out.lo; show _ < H2; omega
    · intro x hx; cases hx; have := Q3.out.lo; show _ < H3; omega
    · intro x hx; cases hx; have := Q4.out.lo; show _ < H4; omega
    · intro i j hij hj
      have h : ∀ k, k < 4 → (fun j => [G0, G1, G2, G3, G4].getD j 0) k < (fun j => [G0, G1, G2, G3, G4].getD j 0) (k + 1) := by
        intro k hk
        match k, hk with
        | 0, _ => show G0 < G1; omega
        | 1, _ => show G1 < G2; omega
        | 2, _ => show G2 < G3; omega
        | 3, _ => show G3 < G4; omega
      have h' : ∀ d i, i + d + 1 < 5 → (fun j => [G0, G1, G2, G3, G4].getD j 0) i < (fun j => [G0, G1, G2, G3, G4].getD j 0) (i + d + 1) := by
        intro d
        induction d with
        | zero => intro i hi; exact h i (by omega)
        | succ d ih => intro i hi; exact Nat.lt_trans (ih i (by omega)) (h (i + d + 1) (by omega))
      have := h' (j - i - 1) i (by omega)
      rwa [show i + (j - i - 1) + 1 = j by omega] at this
    · exact ⟨by show _ ≤ G0; omega, by show G0 < _; omega⟩
    · exact ⟨by show _ ≤ G1; omega, by show G1 < _; omega⟩
    · exact ⟨by show _ ≤ G2; omega, by show G2 < _; omega⟩
    · exact ⟨by show _ ≤ G3; omega, by show G3 < _; omega⟩
    · exact ⟨by show _ ≤ G4; omega, by show G4 < _; omega⟩
    · omega
  have HWW : Hid (Below w2.heap.size w2 W0) := by
    have z3 := HW3.out.size
    have z4 := HW4.out.size
    have z5 := HW5.out.size
    have z6 := HW6.out.size
    have z7 := HW7.out.size
    have z8 := HW8.out.size
    have z9 := HW9.out.size
    have z10 := HW10.out.size
    have z11 := HW11.out.size
    have z12 := HW12.out.size
    have z13 := HW13.out.size
    exact HW3.out.trans ((HW4.out.mono (by omega)).trans ((HW5.out.mono (by omega)).trans ((HW6.out.mono (by omega)).trans ((HW7.out.mono (by omega)).trans ((HW8.out.mono (by omega)).trans ((HW9.out.mono (by omega)).trans ((HW10.out.mono (by omega)).trans ((HW11.out.mono (by omega)).trans ((HW12.out.mono (by omega)).trans ((HW13.out.mono (by omega)).trans (HW14.out.mono (by omega))))))))))))
  have HWB : Hid (w13.heap.size < W0.heap.size) := lt_of_block HCL.out
  clear HW3 HW4 HW5 HW6 HW7 HW8 HW9 HW10 HW11 HW12 HW13 HW14 HCL HCL8 HSZ8 P0 P1 P2 P3 P4 Q0 Q1 Q2 Q3 Q4 HX3 HX4 HX5 HX6 HY6 HX2 HY2 HS12
  generalize w7.heap.size = Lb at HSET ⊢
  generalize w13.heap.size = Wb at HSET HWB ⊢
  generalize (fun j => [G0, G1, G2, G3, G4].getD j 0) = G at HSET
  generalize (fun j => [N0, N1, N2, N3, N4].getD j 0) = N at HSET
  generalize (fun j => [C0, C1, C2, C3, C4].getD j 0) = C at HSET
  generalize (fun j => [Value.slice (some ⟨H0, 0, none⟩) M0 D0, .slice (some ⟨H1, 0, none⟩) M1 D1, .slice (some ⟨H2, 0, none⟩) M2 D2, .slice (some ⟨H3, 0, none⟩) M3 D3, .slice (some ⟨H4, 0, none⟩) M4 D4].getD j undef) = U at HSET
  go_loopw [11] (fun i wr => ∃ k : Nat, k ≤ 5 ∧ i = .int .i64 k ∧ Off W0 wr G k) (fun i _ => 5 - (intOf i).toNat)
  case atStart => exact ⟨0, by omega, rfl, Off.refl _ _ _⟩
  case round =>
    obtain ⟨k, hk, rfl, hoff⟩ := hrel
    have HOFF := Lib.hid hoff
    clear hoff
    by_cases hlt : k < 5
    · have hGL := HSET.out.gl
      have hcl := HOFF.out.cell (HSET.out.cl k hlt) (fun j hj => by have := (hGL j (by omega)).2; omega)
      have hcu := HOFF.out.cell (HSET.out.cu k hlt) (fun j hj => by have := (hGL j (by omega)).2; have := HSET.out.lw; omega)
      have HUB := Lib.hid (HOFF.out.bts (HSET.out.ub k hlt) (fun _ x hx j hj => by have := HSET.out.uo k hlt x hx; have := (hGL j (by omega)).2; omega))
      have HVB := Lib.hid (HOFF.out.bts (HSET.out.vb k hlt) (fun _ x hx j hj => by cases hx; have := HSET.out.gi j k hj hlt; show G k ≠ G j; omega))
      have hbelow : Below w2.heap.size W0 wr := HOFF.out.below (fun j hj => (hGL j (by omega)).1) HWW.out.size
      have HBR := Lib.hid (HWW.out.trans hbelow)
      have HBB := Lib.hid ((HB.out.below L12.out.below).below HBR.out)
      have hNL := HSET.out.nl k hlt
      have hNC := HSET.out.nc k hlt
      obtain ⟨pu, cu, hU, -, -, -⟩ := HUB.out.form
      rw [hU] at hcu HUB
      have HCL := Lib.hid hcl
      have HCU := Lib.hid hcu
      have HNL := Lib.hid hNL
      have HNC := Lib.hid hNC
      have HGL := Lib.hid hGL
      have HLEN : Hid ((Fm n s k).length ≤ 1048600) := by
        show _ ≤ _
        match k, hlt with
        | 0, _ => show (Cod.le 2 n).length ≤ _; rw [Cod.le_length]; decide
        | 1, _ => show (Cod.le 4 n).length ≤ _; rw [Cod.le_length]; decide
        | 2, _ => show (Cod.le 8 n).length ≤ _; rw [Cod.le_length]; decide
        | 3, _ => show (Cod.uv n).length ≤ _; omega
        | 4, _ => show (Cod.uv s.length ++ s).length ≤ _; rw [List.length_append]; omega
      clear hcl hcu hbelow hNL hNC hU hGL
      obtain ⟨f, hf⟩ : ∃ f, f = Fm n s k := ⟨_, rfl⟩
      rw [← hf] at HUB HVB HNL HLEN HCU
      clear hf
      obtain ⟨S, hS⟩ : ∃ S, S = strOfNums ((b ++ f).map fun x : Nat => (x : Int)) := ⟨_, rfl⟩
      have HSS := Lib.hid hS
      clear hS
      go_upto_region 7 with (fail)
      have hdec : decide ((k : Int) < 5) = true := by rw [decide_eq_true_iff]; omega
      rw [hdec]
      clear hdec
      refine Ord.walk (PutF Lb Wb k (G k) (N k) (C k) f.length cu b.length cap1 pu p1 S) (PutR wr b f) (fun _ _ => True)
        (by kernel_rfl) (by kernel_rfl) ?fr ?hfr (fun i v w1 w2 _ h => by unfold PutF at h ⊢; exact h) (fun xs => ⟨below_drew _ _, fun h => by simp at h, fun h => by simp at h, fun h => by simp at h⟩) ?he ?hend
      case hfr =>
        intro xs
        simp only [Ord.fill, Act.put, List.setIfInBounds_toArray, List.set_cons_zero, List.set_cons_succ]
        rfl
      case he =>
        refine Ord.each_cons (fun D xs w1 hD hC hP hR hA K hK => ?_) ?_
        · -- 0
          go_simp
          exact hK _ _ ⟨_, rfl, trivial, putR_step hR _ (by decide) (by decide) (by decide), rfl⟩
        refine Ord.each_cons (fun D xs w1 hD hC hP hR hA K hK => ?_) ?_
        · -- 1
          go_simp
          exact hK _ _ ⟨_, rfl, trivial, putR_step hR _ (by decide) (by decide) (by decide), rfl⟩
        refine Ord.each_cons (fun D xs w1 hD hC hP hR hA K hK => ?_) ?_
        · -- 2
          simp only [List.filter_cons, List.filter_nil, Region.binds, if_true, Ord.ahead, PutF, and_true] at hA
          obtain ⟨q0, q1⟩ := hA
          simp only [q0, q1] at hK
          go_simp
          exact hK _ _ ⟨_, rfl, trivial, putR_step hR _ (by decide) (by decide) (by decide), rfl⟩
        refine Ord.each_cons (fun D xs w1 hD hC hP hR hA K hK => ?_) ?_
        · -- 3
          simp only [List.filter_cons, List.filter_nil, Region.binds, if_true, Ord.ahead, PutF, and_true] at hA
          simp only [hA] at hK
          have c0 := hR.1.cell (p := ⟨Lb, k, none⟩) (block_lt_of_cell HCL.out)
          rw [HCL.out] at c0
          go_simp
          exact hK _ _ ⟨_, rfl, trivial, putR_step hR _ (by decide) (by decide) (by decide), rfl⟩
        refine Ord.each_cons (fun D xs w1 hD hC hP hR hA K hK => ?_) ?_
        · -- 4
          simp only [List.filter_cons, List.filter_nil, Region.binds, if_true, Ord.ahead, PutF, and_true] at hA
          simp only [hA] at hK
          have c0 := strOf_conv (HVB.out.below hR.1)
          rw [← HSS.out] at c0
          go_simp
          exact hK _ _ ⟨_, rfl, trivial, putR_step hR _ (by decide) (by decide) (by decide), rfl⟩
        refine Ord.each_cons (fun D xs w1 hD hC hP hR hA K hK => ?_) ?_
        · -- 5
          go_simp
          have hal : Below w1.heap.size w1 (w1.alloc (.cells #[] 5)) := (Below.refl _ _).alloc (Nat.le_refl _) _
          refine hK _ _ ⟨_, rfl, trivial, ⟨hR.1.trans (hal.mono hR.1.size), ?_, ?_, ?_⟩, trivial⟩
          · intro _ _
            exact own_empty w1 wr.heap.size 0 #[] hR.1.size (Nat.zero_le _) rfl
          · intro h7 h12
            exact (hR.2.2.1 h7 h12).below hal
          · intro h12
            exact (hR.2.2.2 h12).below hal
        refine Ord.each_cons (fun D xs w1 hD hC hP hR hA K hK => ?_) ?_
        · -- 6
          go_simp
          exact hK _ _ ⟨_, rfl, trivial, putR_step hR _ (by decide) (by decide) (by decide), rfl⟩
        refine Ord.each_cons (fun D xs w1 hD hC hP hR hA K hK => ?_) ?_
        · -- 7
          simp only [List.filter_cons, List.filter_nil, Region.binds, if_true, Ord.ahead, PutF, and_true, true_and] at hA
          have h5 : D 5 = true := hP { on := 5, ground := .data } (by simp) rfl
          have hD7 : D 7 = false := hD
          rw [if_pos (by rfl)]
          refine wp_append_Own (.tmp 55) (.tmp 56) rfl wr.heap.size (xs 5) [] rfl (hR.2.1 h5 hD7) (.slice p1 b.length cap1) b hA (HBB.out.below hR.1) (by rw [List.length_nil]; omega) hR.1.size ?_
          intro v' w' ho hbel hg
          rw [List.nil_append] at ho
          refine hK _ _ ⟨v', rfl, trivial, ?_, trivial⟩
          show PutR wr b f (Ord.wth D 7) (Ord.set xs 7 v') w'
          refine ⟨hR.1.trans hbel, fun _ h => ?_, fun _ _ => ?_, fun h => ?_⟩
          · unfold Ord.wth at h; rw [if_pos rfl] at h; cases h
          · unfold Ord.set; rw [if_pos rfl]; exact ho
          · unfold Ord.wth at h
            rw [if_neg (by decide)] at h
            have := Ord.closed_at hC 12 7 (by kernel_rfl) h
            rw [hD7] at this; cases this
        refine Ord.each_cons (fun D xs w1 hD hC hP hR hA K hK => ?_) ?_
        · -- 8
          go_simp
          exact hK _ _ ⟨_, rfl, trivial, putR_step hR _ (by decide) (by decide) (by decide), rfl⟩
        refine Ord.each_cons (fun D xs w1 hD hC hP hR hA K hK => ?_) ?_
        · -- 9
          go_simp
          exact hK _ _ ⟨_, rfl, trivial, putR_step hR _ (by decide) (by decide) (by decide), rfl⟩
        refine Ord.each_cons (fun D xs w1 hD hC hP hR hA K hK => ?_) ?_
        · -- 10
          simp only [List.filter_cons, List.filter_nil, Region.binds, if_true, Ord.ahead, PutF, and_true] at hA
          obtain ⟨q0, q1⟩ := hA
          simp only [q0, q1] at hK
          go_simp
          exact hK _ _ ⟨_, rfl, trivial, putR_step hR _ (by decide) (by decide) (by decide), rfl⟩
        refine Ord.each_cons (fun D xs w1 hD hC hP hR hA K hK => ?_) ?_
        · -- 11
          simp only [List.filter_cons, List.filter_nil, Region.binds, if_true, Ord.ahead, PutF, and_true] at hA
          simp only [hA] at hK
          have c0 := hR.1.cell (p := ⟨Wb, k, none⟩) (block_lt_of_cell HCU.out)
          rw [HCU.out] at c0
          go_simp
          exact hK _ _ ⟨_, rfl, trivial, putR_step hR _ (by decide) (by decide) (by decide), rfl⟩
        refine Ord.each_cons (fun D xs w1 hD hC hP hR hA K hK => ?_) ?_
        · -- 12
          simp only [List.filter_cons, List.filter_nil, Region.binds, if_true, Ord.ahead, PutF, and_true, true_and] at hA
          have h7 : D 7 = true := hP { on := 7, ground := .data } (by simp) rfl
          have hD12 : D 12 = false := hD
          rw [if_pos (by rfl)]
          have hfl := HLEN.out
          refine wp_append_Own (.tmp 57) (.tmp 61) rfl wr.heap.size (xs 7) b rfl (hR.2.2.1 h7 hD12) (.slice pu f.length cu) f hA (HUB.out.below hR.1) (by omega) hR.1.size ?_
          intro v' w' ho hbel hg
          refine hK _ _ ⟨v', rfl, trivial, ?_, trivial⟩
          show PutR wr b f (Ord.wth D 12) (Ord.set xs 12 v') w'
          refine ⟨hR.1.trans hbel, fun _ h => ?_, fun _ h => ?_, fun _ => ?_⟩
          · unfold Ord.wth at h; rw [if_neg (by decide), h7] at h; cases h
          · unfold Ord.wth at h; rw [if_pos rfl] at h; cases h
          · unfold Ord.set; rw [if_pos rfl]; exact ho
        refine Ord.each_cons (fun D xs w1 hD hC hP hR hA K hK => ?_) ?_
        · -- 13
          have c0 := strOf_conv (hR.2.2.2 (hP { on := 12, ground := .data } (by simp) rfl)).bts
          rw [← HSS.out] at c0
          go_simp
          exact hK _ _ ⟨_, rfl, trivial, putR_step hR _ (by decide) (by decide) (by decide), rfl⟩
        refine Ord.each_cons (fun D xs w1 hD hC hP hR hA K hK => ?_) ?_
        · -- 14
          simp only [List.filter_cons, List.filter_nil, Region.binds, if_true, Ord.ahead, PutF, and_true] at hA
          obtain ⟨q0, q1⟩ := hA
          simp only [q0, q1] at hK
          go_simp
          exact hK _ _ ⟨_, rfl, trivial, putR_step hR _ (by decide) (by decide) (by decide), rfl⟩
        exact Ord.each_nil
      case hend =>
        intro D xs w1 hR hF
        have h14 := (hF 14 (by decide)).2
        simp only [PutF] at h14
        have hR1 := hR.1
        have HOFF1 := Lib.hid (HOFF.out.grow hR1)
        have HC1 := Lib.hid (hR1.cell (p := ⟨Lb, k, none⟩) (block_lt_of_cell HCL.out) |>.trans HCL.out)
        have HRW1 := Lib.hid (HOFF1.out.row (HSET.out.vr k hlt) (fun j hj => by have := HSET.out.gi j k hj hlt; omega))
        have hGk := HGL.out k hlt
        have HLG : Hid (Lb ≠ G k) := by show _ ≠ _; omega
        clear hF hR HUB HVB HBB HLEN HSS HCU hR1 hGk
        rw [h14]
        clear h14
        go_wp2_with fail
        go_loopw [12] (fun i wx => ∃ kk : Nat, kk ≤ N k ∧ i = .int .i64 kk ∧ w1.grownBy wx (some (G k)) ∧ Row wx (G k) (N k)) (fun i _ => N k - (intOf i).toNat)
        case atStart => exact ⟨0, Nat.zero_le _, rfl, grownBy_refl _ _, HRW1.out⟩
        case round =>
          obtain ⟨kk, hkk, rfl, hgx, hrow⟩ := hrel
          have HGX := Lib.hid hgx
          have HRX := Lib.hid hrow
          have hc : wr.cell? ⟨Lb, k, none⟩ = some (.slice (some ⟨G k, 0, none⟩) (N k) (C k)) := by
            rw [World.cell?_of_block (a := ⟨Lb, k, none⟩) (hgx.block Lb (block_lt_of_cell HC1.out) (fun e => HLG.out (Option.some.inj e)))]
            exact HC1.out
          have hnc := HNC.out
          clear hgx hrow
          by_cases hlt2 : kk < N k
          · obtain ⟨b0, hb0, hcell⟩ := HRX.out.cell kk hlt2
            have hfree := HRX.out.free kk
            go_wp2_with fail
            exact ⟨⟨kk + 1, by omega, by go_num, grownBy_trans HGX.out (grownBy_setCell _ _ _ _), HRX.out.set kk 99 (by decide)⟩, by simp [intOf]; omega⟩
          · obtain rfl : kk = N k := by omega
            go_wp2_with fail
            exact ⟨⟨k + 1, by omega, by go_num, HOFF1.out.write HGX.out⟩, by simp [intOf]; omega⟩
    · obtain rfl : k = 5 := by omega
      have HBL := Lib.hid (HWW.out.trans (HOFF.out.below (fun j hj => (HSET.out.gl j hj).1) HWW.out.size))
      clear HSET HOFF HWW
      go_wp2_with fail
      refine (kept_any _ b g1 c1 _ _ (L12.out.later HBL.out) ((HB.out.below L12.out.below).below HBL.out) (by omega)).mono ?_
      rintro e w15 ⟨rfl, rfl⟩
      go_wp2_with fail
      refine (kept_any _ s g2 c2 _ _ (L2.out.later HBL.out) (((HS.out.below L1.out.below).below L2.out.below).below HBL.out) (by omega)).mono ?_
      rintro e w15 ⟨rfl, rfl⟩
      go_wp2_with fail
      refine (known_any _).mono ?_
      rintro e w16 ⟨rfl, hb16⟩
      have HW16 := Lib.hid hb16
      clear hb16
      go_wp2_with fail
      go_ret
      exact ⟨rfl, L12.out.below.trans (HBL.out.trans (HW16.out.mono HBL.out.size) |>.mono L12.out.below.size)⟩
end Go.Proofs.Ytpakohlniaiclaa
