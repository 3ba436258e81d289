/-
  Mathematics: how many bits are set, as the library reckons it, is how many are set.
-/
import Derived.Test.YtkgegjnkkbgghaaDoorDF
namespace Go.Proofs.YtkgegjnkkbgghaaDoor
open Go.RowKit
set_option linter.unusedVariables false
set_option linter.unusedSimpArgs false

theorem land_split (h b M m : Nat) (hb : b < 256) (hm : m < 256) : (256 * h + b) &&& (256 * M + m) = 256 * (h &&& M) + (b &&& m) := by
  have e1 := Nat.and_div_two_pow (a := 256 * h + b) (b := 256 * M + m) (n := 8)
  have e2 := Nat.and_mod_two_pow (a := 256 * h + b) (b := 256 * M + m) (n := 8)
  have q1 : (256 * h + b) / 2 ^ 8 = h := by omega
  have q2 : (256 * M + m) / 2 ^ 8 = M := by omega
  have q3 : (256 * h + b) % 2 ^ 8 = b := by omega
  have q4 : (256 * M + m) % 2 ^ 8 = m := by omega
  rw [q1, q2] at e1
  rw [q3, q4] at e2
  omega
def m55 : Nat → Nat
  | 0 => 0
  | n + 1 => 256 * m55 n + 85
def m33 : Nat → Nat
  | 0 => 0
  | n + 1 => 256 * m33 n + 51
def m0f : Nat → Nat
  | 0 => 0
  | n + 1 => 256 * m0f n + 15
def F1 (n x : Nat) : Nat := (x / 2 &&& m55 n) + (x &&& m55 n)
def F2 (n x : Nat) : Nat := (x / 4 &&& m33 n) + (x &&& m33 n)
def F3 (n x : Nat) : Nat := (x / 16 + x) &&& m0f n
def f1 (b : Nat) : Nat := (b / 2 &&& 85) + (b &&& 85)
def f2 (b : Nat) : Nat := (b / 4 &&& 51) + (b &&& 51)
def f3 (b : Nat) : Nat := (b / 16 + b) % 16
theorem low55 : ∀ b : Fin 256, (b.val &&& 85 = b.val % 128 &&& 85) := by decide +kernel
theorem low33 : ∀ b : Fin 256, (b.val &&& 51 = b.val % 64 &&& 51) := by decide +kernel
theorem F1_succ (n h b : Nat) (hb : b < 256) : F1 (n + 1) (256 * h + b) = 256 * F1 n h + f1 b := by
  unfold F1 f1
  have e : (256 * h + b) / 2 = 256 * (h / 2) + (128 * (h % 2) + b / 2) := by omega
  rw [e]
  simp only [m55]
  rw [land_split _ _ _ _ (by omega) (by omega), land_split _ _ _ _ hb (by omega)]
  have h1 := low55 ⟨128 * (h % 2) + b / 2, by omega⟩
  simp only at h1
  rw [show (128 * (h % 2) + b / 2) % 128 = b / 2 by omega] at h1
  rw [h1]
  omega
theorem F2_succ (n h b : Nat) (hb : b < 256) : F2 (n + 1) (256 * h + b) = 256 * F2 n h + f2 b := by
  unfold F2 f2
  have e : (256 * h + b) / 4 = 256 * (h / 4) + (64 * (h % 4) + b / 4) := by omega
  rw [e]
  simp only [m33]
  rw [land_split _ _ _ _ (by omega) (by omega), land_split _ _ _ _ hb (by omega)]
  have h1 := low33 ⟨64 * (h % 4) + b / 4, by omega⟩
  simp only at h1
  rw [show (64 * (h % 4) + b / 4) % 64 = b / 4 by omega] at h1
  rw [h1]
  omega
theorem F3_succ (n h b : Nat) (hb : 16 * (h % 16) + b / 16 + b < 256) : F3 (n + 1) (256 * h + b) = 256 * F3 n h + f3 b := by
  unfold F3 f3
  have e : (256 * h + b) / 16 + (256 * h + b) = 256 * (h / 16 + h) + (16 * (h % 16) + b / 16 + b) := by omega
  rw [e]
  simp only [m0f]
  rw [land_split _ _ _ _ hb (by omega)]
  have h1 := Nat.and_two_pow_sub_one_eq_mod (16 * (h % 16) + b / 16 + b) 4
  rw [show 2 ^ 4 - 1 = 15 by rfl] at h1
  rw [h1]
  omega
def G (n x : Nat) : Nat := F3 n (F2 n (F1 n x))
theorem small : ∀ b : Fin 256, f1 b.val < 256 ∧ f2 (f1 b.val) ≤ 68 ∧ f2 (f1 b.val) % 16 ≤ 4 := by decide +kernel
theorem mod16 : ∀ (n x : Nat), F2 n (F1 n x) % 16 ≤ 4
  | 0, x => by simp [F2, m33]
  | n + 1, x => by
    have h1 := F1_succ n (x / 256) (x % 256) (by omega)
    rw [show 256 * (x / 256) + x % 256 = x by omega] at h1
    have hs := small ⟨x % 256, by omega⟩
    simp only at hs
    rw [h1, F2_succ _ _ _ hs.1]
    omega
/-- How many bits a byte has. -/
def pb (b : Nat) : Nat := f3 (f2 (f1 b))
theorem G_succ (n x : Nat) : G (n + 1) x = 256 * G n (x / 256) + pb (x % 256) := by
  unfold G pb
  have h1 := F1_succ n (x / 256) (x % 256) (by omega)
  rw [show 256 * (x / 256) + x % 256 = x by omega] at h1
  have hs := small ⟨x % 256, by omega⟩
  simp only at hs
  rw [h1, F2_succ _ _ _ hs.1]
  have := mod16 n (x / 256)
  rw [F3_succ _ _ _ (by omega)]
/-- How many of the first n bits are set. -/
def bs (x : Nat) : Nat → Nat
  | 0 => 0
  | n + 1 => bs x n + x / 2 ^ n % 2
theorem bs_add (x m : Nat) : ∀ n, bs x (m + n) = bs x m + bs (x / 2 ^ m) n
  | 0 => by simp [bs]
  | n + 1 => by
    rw [← Nat.add_assoc, bs, bs_add x m n, bs, Nat.div_div_eq_div_mul, ← Nat.pow_add]
    omega
theorem bs8 : ∀ b : Fin 256, bs b.val 8 = pb b.val := by decide +kernel
theorem pb_le : ∀ b : Fin 256, pb b.val ≤ 8 := by decide +kernel
theorem bs8x (x : Nat) : bs x 8 = pb (x % 256) := by
  have h := bs8 ⟨x % 256, by omega⟩
  simp only at h
  rw [← h]
  simp only [bs]
  omega
theorem bs_byte (x n : Nat) : bs x (8 + n) = pb (x % 256) + bs (x / 256) n := by rw [bs_add, bs8x]
theorem bs_le (x : Nat) : ∀ n, bs x n ≤ n
  | 0 => Nat.le_refl _
  | n + 1 => by have := bs_le x n; simp only [bs]; omega
/-- The sum of eight bytes, folded. -/
theorem fold8 (c0 c1 c2 c3 c4 c5 c6 c7 : Nat) (h0 : c0 ≤ 8) (h1 : c1 ≤ 8) (h2 : c2 ≤ 8) (h3 : c3 ≤ 8) (h4 : c4 ≤ 8) (h5 : c5 ≤ 8) (h6 : c6 ≤ 8) (h7 : c7 ≤ 8) (y : Nat)
    (hy : y = 256 * (256 * (256 * (256 * (256 * (256 * (256 * c7 + c6) + c5) + c4) + c3) + c2) + c1) + c0) (y4 y5 y6 : Nat) (e4 : y4 = y + y / 256) (e5 : y5 = y4 + y4 / 65536) (e6 : y6 = y5 + y5 / 4294967296) : y6 % 128 = c0 + c1 + c2 + c3 + c4 + c5 + c6 + c7 ∧ y6 < 18446744073709551616 := by
  have q4 : y4 = 256 * (256 * (256 * (256 * (256 * (256 * (256 * c7 + (c6 + c7)) + (c5 + c6)) + (c4 + c5)) + (c3 + c4)) + (c2 + c3)) + (c1 + c2)) + (c0 + c1) := by omega
  have q5 : y5 = 256 * (256 * (256 * (256 * (256 * (256 * (256 * c7 + (c6 + c7)) + (c5 + c6 + c7)) + (c4 + c5 + c6 + c7)) + (c3 + c4 + c5 + c6)) + (c2 + c3 + c4 + c5)) + (c1 + c2 + c3 + c4)) + (c0 + c1 + c2 + c3) := by clear hy e4; omega
  have q6 : y6 = y5 + (256 * (256 * (256 * c7 + (c6 + c7)) + (c5 + c6 + c7)) + (c4 + c5 + c6 + c7)) := by clear hy e4 q4 e5; omega
  clear hy e4 q4 e5 e6
  subst q5
  subst q6
  constructor
  · omega
  · omega
theorem m55_8 : m55 8 = 6148914691236517205 := by decide +kernel
theorem m33_8 : m33 8 = 3689348814741910323 := by decide +kernel
theorem m0f_8 : m0f 8 = 1085102592571150095 := by decide +kernel
theorem G8 (x : Nat) : G 8 x = 256 * (256 * (256 * (256 * (256 * (256 * (256 * (pb (x / 256 / 256 / 256 / 256 / 256 / 256 / 256 % 256)) + pb (x / 256 / 256 / 256 / 256 / 256 / 256 % 256)) + pb (x / 256 / 256 / 256 / 256 / 256 % 256)) + pb (x / 256 / 256 / 256 / 256 % 256)) + pb (x / 256 / 256 / 256 % 256)) + pb (x / 256 / 256 % 256)) + pb (x / 256 % 256)) + pb (x % 256) := by
  have h0 : ∀ y, G 0 y = 0 := fun y => by simp [G, F3, m0f]
  rw [G_succ, G_succ, G_succ, G_succ, G_succ, G_succ, G_succ, G_succ, h0, Nat.mul_zero, Nat.zero_add]
theorem bs64 (x : Nat) : bs x 64 = pb (x % 256) + (pb (x / 256 % 256) + (pb (x / 256 / 256 % 256) + (pb (x / 256 / 256 / 256 % 256) + (pb (x / 256 / 256 / 256 / 256 % 256) + (pb (x / 256 / 256 / 256 / 256 / 256 % 256) + (pb (x / 256 / 256 / 256 / 256 / 256 / 256 % 256) + pb (x / 256 / 256 / 256 / 256 / 256 / 256 / 256 % 256))))))) := by
  have a1 : ∀ y, bs y 64 = pb (y % 256) + bs (y / 256) 56 := fun y => bs_byte y 56
  have a2 : ∀ y, bs y 56 = pb (y % 256) + bs (y / 256) 48 := fun y => bs_byte y 48
  have a3 : ∀ y, bs y 48 = pb (y % 256) + bs (y / 256) 40 := fun y => bs_byte y 40
  have a4 : ∀ y, bs y 40 = pb (y % 256) + bs (y / 256) 32 := fun y => bs_byte y 32
  have a5 : ∀ y, bs y 32 = pb (y % 256) + bs (y / 256) 24 := fun y => bs_byte y 24
  have a6 : ∀ y, bs y 24 = pb (y % 256) + bs (y / 256) 16 := fun y => bs_byte y 16
  have a7 : ∀ y, bs y 16 = pb (y % 256) + bs (y / 256) 8 := fun y => bs_byte y 8
  rw [a1, a2, a3, a4, a5, a6, a7, bs8x]
theorem and_lt {a b n : Nat} (h : b < n) : a &&& b < n := Nat.lt_of_le_of_lt Nat.and_le_right h
theorem oc1_nat (x : Nat) (h : x < 18446744073709551616) : oc1 (x : Int) = ((F1 8 x : Nat) : Int) ∧ F1 8 x < 18446744073709551616 := by
  have b1 : (x / 2 &&& 6148914691236517205) ≤ 6148914691236517205 := Nat.and_le_right
  have b2 : (x &&& 6148914691236517205) ≤ 6148914691236517205 := Nat.and_le_right
  unfold oc1 F1
  rw [m55_8]
  have e1 : (x : Int) / 2 = ((x / 2 : Nat) : Int) := by omega
  rw [e1, show (6148914691236517205 : Int) = ((6148914691236517205 : Nat) : Int) from rfl, u64_and_nat (x / 2) _ (by omega) (by omega), u64_and_nat x _ h (by omega), IntKind.wrap_u64]
  generalize x / 2 &&& 6148914691236517205 = p at *
  generalize x &&& 6148914691236517205 = q at *
  clear e1
  constructor <;> omega
theorem oc2_nat (x : Nat) (h : x < 18446744073709551616) : oc2 (x : Int) = ((F2 8 x : Nat) : Int) ∧ F2 8 x < 9000000000000000000 := by
  have b1 : (x / 4 &&& 3689348814741910323) ≤ 3689348814741910323 := Nat.and_le_right
  have b2 : (x &&& 3689348814741910323) ≤ 3689348814741910323 := Nat.and_le_right
  unfold oc2 F2
  rw [m33_8]
  have e1 : (x : Int) / 4 = ((x / 4 : Nat) : Int) := by omega
  rw [e1, show (3689348814741910323 : Int) = ((3689348814741910323 : Nat) : Int) from rfl, u64_and_nat (x / 4) _ (by omega) (by omega), u64_and_nat x _ h (by omega), IntKind.wrap_u64]
  generalize x / 4 &&& 3689348814741910323 = p at *
  generalize x &&& 3689348814741910323 = q at *
  clear e1
  constructor <;> omega
theorem oc3_nat (x : Nat) (h : x < 9000000000000000000) : oc3 (x : Int) = ((F3 8 x : Nat) : Int) := by
  unfold oc3 F3
  rw [m0f_8]
  have e1 : IntKind.u64.wrap ((x : Int) / 16 + (x : Int)) = ((x / 16 + x : Nat) : Int) := by rw [IntKind.wrap_u64]; omega
  rw [e1, show (1085102592571150095 : Int) = ((1085102592571150095 : Nat) : Int) from rfl, u64_and_nat _ _ (by omega) (by omega)]
theorem oc4_nat (y z : Nat) (e : z = y + y / 256) (h : y < 4000000000000000000) : oc4 (y : Int) = (z : Int) := by
  unfold oc4
  rw [IntKind.wrap_u64]
  omega
theorem oc5_nat (y z : Nat) (e : z = y + y / 65536) (h : y < 4000000000000000000) : oc5 (y : Int) = (z : Int) := by
  unfold oc5
  rw [IntKind.wrap_u64]
  omega
theorem oc6_nat (y z : Nat) (e : z = y + y / 4294967296) (h : y < 4000000000000000000) : oc6 (y : Int) = (z : Int) := by
  unfold oc6
  rw [IntKind.wrap_u64]
  omega
theorem up_lt (y z d B : Nat) (e : z = y + y / d) (h : y < B) : z < 2 * B := by
  have := Nat.div_le_self y d
  omega
theorem oc_bs (x : Nat) (h : x < 18446744073709551616) : oc (x : Int) = ((bs x 64 : Nat) : Int) := by
  unfold oc
  rw [(oc1_nat x h).1, (oc2_nat _ (oc1_nat x h).2).1, oc3_nat _ (oc2_nat _ (oc1_nat x h).2).2, i64_and127]
  have hG : F3 8 (F2 8 (F1 8 x)) = G 8 x := rfl
  rw [hG, G8, bs64]
  have k : ∀ y, pb (y % 256) ≤ 8 := fun y => pb_le ⟨y % 256, by omega⟩
  have k0 := k x
  have k1 := k (x / 256)
  have k2 := k (x / 256 / 256)
  have k3 := k (x / 256 / 256 / 256)
  have k4 := k (x / 256 / 256 / 256 / 256)
  have k5 := k (x / 256 / 256 / 256 / 256 / 256)
  have k6 := k (x / 256 / 256 / 256 / 256 / 256 / 256)
  have k7 := k (x / 256 / 256 / 256 / 256 / 256 / 256 / 256)
  generalize pb (x / 256 / 256 / 256 / 256 / 256 / 256 / 256 % 256) = c7 at *
  generalize pb (x / 256 / 256 / 256 / 256 / 256 / 256 % 256) = c6 at *
  generalize pb (x / 256 / 256 / 256 / 256 / 256 % 256) = c5 at *
  generalize pb (x / 256 / 256 / 256 / 256 % 256) = c4 at *
  generalize pb (x / 256 / 256 / 256 % 256) = c3 at *
  generalize pb (x / 256 / 256 % 256) = c2 at *
  generalize pb (x / 256 % 256) = c1 at *
  generalize pb (x % 256) = c0 at *
  clear k
  obtain ⟨y, hy⟩ : ∃ y, y = 256 * (256 * (256 * (256 * (256 * (256 * (256 * c7 + c6) + c5) + c4) + c3) + c2) + c1) + c0 := ⟨_, rfl⟩
  obtain ⟨y4, e4⟩ : ∃ y4, y4 = y + y / 256 := ⟨_, rfl⟩
  obtain ⟨y5, e5⟩ : ∃ y5, y5 = y4 + y4 / 65536 := ⟨_, rfl⟩
  obtain ⟨y6, e6⟩ : ∃ y6, y6 = y5 + y5 / 4294967296 := ⟨_, rfl⟩
  obtain ⟨f1, f2⟩ := fold8 c0 c1 c2 c3 c4 c5 c6 c7 k0 k1 k2 k3 k4 k5 k6 k7 y hy y4 y5 y6 e4 e5 e6
  have hyb : y < 700000000000000000 := by clear f1 f2 e4 e5 e6; omega
  rw [← hy]
  clear hy k0 k1 k2 k3 k4 k5 k6 k7
  have b4 := up_lt y y4 _ _ e4 hyb
  have b5 := up_lt y4 y5 _ _ e5 b4
  have b6 := up_lt y5 y6 _ _ e6 b5
  rw [oc4_nat y y4 e4 (by clear e4 e5 e6 f1; omega), oc5_nat y4 y5 e5 (by clear e4 e5 e6 f1; omega), oc6_nat y5 y6 e6 (by clear e4 e5 e6 f1; omega)]
  clear e4 e5 e6
  rw [w64 _ (by clear f1; omega)]
  omega
/-- The bit b of a set. -/
def bitS (s : S4) (b : Nat) : Nat := (s.get (b / 64)).toNat / 2 ^ (b % 64) % 2
def cntS (s : S4) : Nat → Nat
  | 0 => 0
  | b + 1 => cntS s b + bitS s b
theorem cnt_word (s : S4) (k : Nat) : ∀ n, n ≤ 64 → cntS s (64 * k + n) = cntS s (64 * k) + bs (s.get k).toNat n
  | 0, _ => by simp [bs]
  | n + 1, h => by
    rw [← Nat.add_assoc, cntS, cnt_word s k n (by omega), bs]
    unfold bitS
    rw [show (64 * k + n) / 64 = k by omega, show (64 * k + n) % 64 = n by omega]
    omega
theorem cnt_all (s : S4) (h : OkS s) : csn s 4 = ((cntS s 256 : Nat) : Int) := by
  have w0 := cnt_word s 0 64 (Nat.le_refl _)
  have w1 := cnt_word s 1 64 (Nat.le_refl _)
  have w2 := cnt_word s 2 64 (Nat.le_refl _)
  have w3 := cnt_word s 3 64 (Nat.le_refl _)
  simp only [Nat.reduceMul, Nat.reduceAdd] at w0 w1 w2 w3
  have z0 : cntS s 0 = 0 := rfl
  have o : ∀ k, k < 4 → oc (s.get k) = ((bs (s.get k).toNat 64 : Nat) : Int) := fun k hk => by
    obtain ⟨p1, p2⟩ := h k hk
    have := oc_bs (s.get k).toNat (by omega)
    rwa [show (((s.get k).toNat : Nat) : Int) = s.get k by omega] at this
  have o0 := o 0 (by omega)
  have o1 := o 1 (by omega)
  have o2 := o 2 (by omega)
  have o3 := o 3 (by omega)
  simp only [csn, o0, o1, o2, o3]
  generalize bs (s.get 0).toNat 64 = a0 at *
  generalize bs (s.get 1).toNat 64 = a1 at *
  generalize bs (s.get 2).toNat 64 = a2 at *
  generalize bs (s.get 3).toNat 64 = a3 at *
  omega
theorem cnt_le (s : S4) : ∀ b, cntS s b ≤ b
  | 0 => Nat.le_refl _
  | b + 1 => by have := cnt_le s b; have : bitS s b < 2 := Nat.mod_lt _ (by omega); simp only [cntS]; omega
end Go.Proofs.YtkgegjnkkbgghaaDoor
