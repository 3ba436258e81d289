/-
  Values: mathematics, boxes.
-/
import Derived.Test.YtmjjedbdedemcaaGreatDoorF
import Derived.Test.YtmjjedbdedemcaaGreatDoorCC
import Derived.Test.YtmjjedbdedemcaaGreatDoorSB
import Derived.Lib.TrailingZeros
import Derived.Laws.StructEq
import Derived.Deep.RegionHeld3
import Derived.Deep.RegionWith
namespace Go.Proofs.YtmjjedbdedemcaaGreatDoor
open Go.RowKit
set_option linter.unusedVariables false

set_option linter.unusedSimpArgs false

/-- Noughts ahead, and behind, of a number of 64 bits that is not 0. -/
def lz (x : Nat) : Nat := 63 - Nat.log2 x
def tz (x : Nat) : Nat := Lib.ctz 64 x

theorem lz_le (x : Nat) : lz x ≤ 63 := by unfold lz; omega
theorem lz_lo {x : Nat} (h0 : 0 < x) (hx : x < 18446744073709551616) : 2 ^ (63 - lz x) ≤ x := by
  unfold lz
  have h1 : Nat.log2 x < 64 := (Nat.log2_lt (by omega)).2 hx
  rw [show 63 - (63 - Nat.log2 x) = Nat.log2 x by omega]
  exact Nat.log2_self_le (by omega)
theorem lz_hi {x : Nat} (h0 : 0 < x) (hx : x < 18446744073709551616) : x < 2 ^ (64 - lz x) := by
  unfold lz
  have h1 : Nat.log2 x < 64 := (Nat.log2_lt (by omega)).2 hx
  rw [show 64 - (63 - Nat.log2 x) = Nat.log2 x + 1 by omega]
  exact Nat.lt_log2_self
theorem lz_ge {x a : Nat} (h0 : 0 < x) (ha : a ≤ 63) (h : x < 2 ^ (64 - a)) : a ≤ lz x := by
  unfold lz
  have := (Nat.log2_lt (n := x) (k := 64 - a) (by omega)).2 h
  omega
theorem lz_eq {x a : Nat} (ha : a ≤ 63) (h1 : 2 ^ (63 - a) ≤ x) (h2 : x < 2 ^ (64 - a)) : lz x = a := by
  have h0 : 0 < x := Nat.lt_of_lt_of_le (Nat.two_pow_pos _) h1
  unfold lz
  have e1 := (Nat.le_log2 (n := x) (k := 63 - a) (by omega)).2 h1
  have e2 := (Nat.log2_lt (n := x) (k := 64 - a) (by omega)).2 h2
  omega
theorem tz_spec {x : Nat} (h0 : 0 < x) (hx : x < 18446744073709551616) : ∃ m, x = 2 ^ tz x * (2 * m + 1) ∧ tz x < 64 := by
  unfold tz Lib.ctz
  rw [if_neg (by omega)]
  exact Lib.ctzFrom_spec 64 x h0 hx
theorem odd_le {k b m y : Nat} (h : 2 ^ k * (2 * m + 1) = y * 2 ^ b) : b ≤ k := by
  rcases Nat.lt_or_ge k b with hlt | h1
  · exfalso
    obtain ⟨d, rfl⟩ : ∃ d, b = k + (d + 1) := ⟨b - k - 1, by omega⟩
    rw [Nat.pow_add, Nat.mul_comm y, Nat.mul_assoc] at h
    have h2 := Nat.eq_of_mul_eq_mul_left (Nat.two_pow_pos k) h
    rw [Nat.pow_succ, Nat.mul_comm (2 ^ d) 2, Nat.mul_assoc] at h2
    omega
  · exact h1
theorem tz_ge {x b y : Nat} (h0 : 0 < x) (hx : x < 18446744073709551616) (h : x = y * 2 ^ b) : b ≤ tz x := by
  obtain ⟨m, h1, _⟩ := tz_spec h0 hx
  exact odd_le (h1.symm.trans h)
theorem tz_eq {x b m : Nat} (hx : x < 18446744073709551616) (h : x = 2 ^ b * (2 * m + 1)) : tz x = b := by
  have h0 : 0 < x := by rw [h]; exact Nat.mul_pos (Nat.two_pow_pos _) (by omega)
  obtain ⟨m', h1, _⟩ := tz_spec h0 hx
  have e1 := odd_le (k := tz x) (b := b) (m := m') (y := 2 * m + 1) (by rw [← h1, Nat.mul_comm _ (2 ^ b)]; exact h)
  have e2 := odd_le (k := b) (b := tz x) (m := m) (y := 2 * m' + 1) (by rw [← h, Nat.mul_comm _ (2 ^ tz x)]; exact h1)
  omega
theorem lz_tz {x : Nat} (h0 : 0 < x) (hx : x < 18446744073709551616) : lz x + tz x ≤ 63 := by
  obtain ⟨m, h1, h2⟩ := tz_spec h0 hx
  have h3 := lz_hi h0 hx
  have h4 : 2 ^ tz x ≤ x := by
    have : 2 ^ tz x * 1 ≤ 2 ^ tz x * (2 * m + 1) := Nat.mul_le_mul_left _ (by omega)
    omega
  have h5 : 2 ^ tz x < 2 ^ (64 - lz x) := Nat.lt_of_le_of_lt h4 h3
  have := (Nat.pow_lt_pow_iff_right (a := 2) (by decide)).1 h5
  have := lz_le x
  omega
/-- What stands behind a place that is not behind the last 1. -/
theorem tz_cut {x b : Nat} (h0 : 0 < x) (hx : x < 18446744073709551616) (hb : b ≤ tz x) : x / 2 ^ b * 2 ^ b = x := by
  obtain ⟨m, h1, _⟩ := tz_spec h0 hx
  apply Nat.div_mul_cancel
  rw [h1]
  exact Nat.dvd_trans (Nat.pow_dvd_pow 2 hb) (Nat.dvd_mul_right _ _)
theorem cut_lt {x a b : Nat} (h : x < 2 ^ (64 - a)) (hab : a + b ≤ 64) : x / 2 ^ b < 2 ^ (64 - a - b) := by
  rw [Nat.div_lt_iff_lt_mul (Nat.two_pow_pos b), ← Nat.pow_add, show 64 - a - b + b = 64 - a by omega]
  exact h

/-- A window that may be. -/
def OkW (a b : Nat) : Prop := (a = 64 ∧ b = 0) ∨ a + b ≤ 63
instance (a b : Nat) : Decidable (OkW a b) := by unfold OkW; infer_instance
structure OkSX (n a b : Nat) : Prop where
  n : n ≤ 4096
  w : OkW a b
/-- A difference within the window. -/
def inW (a b x : Nat) : Prop := a ≤ lz x ∧ b ≤ tz x
instance (a b x : Nat) : Decidable (inW a b x) := by unfold inW; infer_instance
/-- The mark, and the window behind it. -/
def dM (a b x : Nat) : Nat := if x = 0 then 0 else if inW a b x then 2 else 3
def dA (a b x : Nat) : Nat := if x = 0 then a else if inW a b x then a else lz x
def dB (a b x : Nat) : Nat := if x = 0 then b else if inW a b x then b else tz x
def dS (a b x : Nat) : Nat := if x = 0 then 0 else 64 - dA a b x - dB a b x
/-- How many bits are written, and which number they are. -/
def dN (a b x : Nat) : Nat := if x = 0 then 1 else if inW a b x then 2 + dS a b x else 14 + dS a b x
def dX (a b x : Nat) : Nat := if x = 0 then 0 else if inW a b x then 2 * 2 ^ dS a b x + x / 2 ^ dB a b x else (12288 + 64 * lz x + (dS a b x - 1)) * 2 ^ dS a b x + x / 2 ^ dB a b x

theorem d_le {a b x : Nat} (hw : OkW a b) (h0 : x ≠ 0) (hx : x < 18446744073709551616) : dA a b x + dB a b x ≤ 63 ∧ dA a b x ≤ lz x ∧ dB a b x ≤ tz x := by
  unfold dA dB
  rw [if_neg h0, if_neg h0]
  have h1 := lz_tz (by omega) hx
  have h2 := lz_le x
  by_cases h : inW a b x
  · rw [if_pos h, if_pos h]
    obtain ⟨h3, h4⟩ := h
    rcases hw with ⟨rfl, rfl⟩ | h5 <;> omega
  · rw [if_neg h, if_neg h]
    omega
theorem dW_ok {a b x : Nat} (hw : OkW a b) (hx : x < 18446744073709551616) : OkW (dA a b x) (dB a b x) := by
  by_cases h0 : x = 0
  · simp only [dA, dB, if_pos h0]; exact hw
  · exact .inr (d_le hw h0 hx).1
theorem dS_facts {a b x : Nat} (hw : OkW a b) (h0 : x ≠ 0) (hx : x < 18446744073709551616) : dS a b x = 64 - dA a b x - dB a b x ∧ 1 ≤ dS a b x ∧ dS a b x ≤ 64 ∧ x / 2 ^ dB a b x < 2 ^ dS a b x := by
  have h1 := d_le hw h0 hx
  have e : dS a b x = 64 - dA a b x - dB a b x := by unfold dS; rw [if_neg h0]
  refine ⟨e, by omega, by omega, ?_⟩
  rw [e]
  refine cut_lt (Nat.lt_of_lt_of_le (lz_hi (by omega) hx) (Nat.pow_le_pow_right (by decide) ?_)) (by omega)
  have := lz_le x
  omega
theorem dS_le {a b x : Nat} (hw : OkW a b) (hx : x < 18446744073709551616) : dS a b x ≤ 64 := by
  by_cases h0 : x = 0
  · unfold dS; rw [if_pos h0]; omega
  · exact (dS_facts hw h0 hx).2.2.1
theorem dN_le {a b x : Nat} (hw : OkW a b) (hx : x < 18446744073709551616) : dN a b x ≤ 78 := by
  have := dS_le hw hx
  unfold dN
  split
  · omega
  · split <;> omega
theorem dN_pos (a b x : Nat) : 1 ≤ dN a b x := by
  unfold dN
  split
  · omega
  · split <;> omega
theorem dN_one {a b x : Nat} (h : dN a b x = 1) : x = 0 := by
  unfold dN at h
  split at h
  · assumption
  · split at h <;> omega
theorem dX_lt {a b x : Nat} (hw : OkW a b) (hx : x < 18446744073709551616) : dX a b x < 2 ^ dN a b x := by
  unfold dX dN
  by_cases h0 : x = 0
  · rw [if_pos h0, if_pos h0]; decide
  · rw [if_neg h0, if_neg h0]
    obtain ⟨e, h1, h2, h3⟩ := dS_facts hw h0 hx
    have := lz_le x
    split
    · exact code_lt (by decide) h3
    · exact code_lt (k := 14) (by simp; omega) h3

/-- Of a value: n values ahead, the last one L. -/
def cN (n L a b v : Nat) : Nat := if n = 0 then 64 else dN a b (v ^^^ L)
def cX (n L a b v : Nat) : Nat := if n = 0 then v else dX a b (v ^^^ L)
def cA (n L a b v : Nat) : Nat := if n = 0 then a else dA a b (v ^^^ L)
def cB (n L a b v : Nat) : Nat := if n = 0 then b else dB a b (v ^^^ L)
theorem xor64 {x y : Nat} (hx : x < 18446744073709551616) (hy : y < 18446744073709551616) : x ^^^ y < 18446744073709551616 := Nat.xor_lt_two_pow (n := 64) hx hy
theorem xor_back (L x : Nat) : (L ^^^ x) ^^^ L = x := by rw [Nat.xor_comm L x, Nat.xor_assoc, Nat.xor_self, Nat.xor_zero]
theorem xor_again (v L : Nat) : L ^^^ (v ^^^ L) = v := by rw [Nat.xor_comm v L, ← Nat.xor_assoc, Nat.xor_self, Nat.zero_xor]
theorem xor_same {v L : Nat} (h : v ^^^ L = 0) : v = L := by have := xor_again v L; rw [h, Nat.xor_zero] at this; exact this.symm
theorem cN_le {n L a b v : Nat} (hs : OkSX n a b) (hL : L < 18446744073709551616) (hv : v < 18446744073709551616) : cN n L a b v ≤ 78 := by
  unfold cN
  split
  · omega
  · exact dN_le hs.w (xor64 hv hL)
theorem cN_pos (n L a b v : Nat) : 1 ≤ cN n L a b v := by
  unfold cN
  split
  · omega
  · exact dN_pos _ _ _
theorem cX_lt {n L a b v : Nat} (hs : OkSX n a b) (hL : L < 18446744073709551616) (hv : v < 18446744073709551616) : cX n L a b v < 2 ^ cN n L a b v := by
  unfold cX cN
  split
  · exact hv
  · exact dX_lt hs.w (xor64 hv hL)
theorem cW_ok {n L a b v : Nat} (hs : OkSX n a b) (hL : L < 18446744073709551616) (hv : v < 18446744073709551616) : OkW (cA n L a b v) (cB n L a b v) := by
  unfold cA cB
  split
  · exact hs.w
  · exact dW_ok hs.w (xor64 hv hL)
theorem ok_nextX {n L a b v : Nat} (hs : OkSX n a b) (hL : L < 18446744073709551616) (hv : v < 18446744073709551616) (hn : n < 4096) : OkSX (n + 1) (cA n L a b v) (cB n L a b v) :=
  ⟨by omega, cW_ok hs hL hv⟩

theorem rd_twelve {V N p : Nat} (h : p + 12 ≤ 8 * N) : rd V N p 12 = rd V N p 6 * 64 + rd V N (p + 6) 6 := rd_more V N p 6 6 h
theorem rd_14 {V N p : Nat} (h : p + 14 ≤ 8 * N) : rd V N p 14 = rd V N p 2 * 4096 + (rd V N (p + 2) 6 * 64 + rd V N (p + 8) 6) := by
  rw [show rd V N p 14 = rd V N p 2 * 4096 + rd V N (p + 2) 12 from rd_more V N p 2 12 h, rd_twelve (by omega)]
theorem six_lt (V N p : Nat) : rd V N p 6 < 64 := rd_lt V N p 6

/-- What is read in the window: the difference. -/
def rI (a b V N p : Nat) : Option Nat :=
  if 8 * N < p + 2 + (64 - a - b) then none else
  if rd V N (p + 2) (64 - a - b) * 2 ^ b = 0 then none else some (rd V N (p + 2) (64 - a - b) * 2 ^ b)
/-- What is read in a window of its own (a', and m bits): the difference. -/
def rO (a b V N p a' m : Nat) : Option Nat :=
  if 64 < a' + m then none else if 8 * N < p + 14 + m then none else
  if rd V N (p + 14) m * 2 ^ (64 - a' - m) ≠ 0 ∧ lz (rd V N (p + 14) m * 2 ^ (64 - a' - m)) = a' ∧ tz (rd V N (p + 14) m * 2 ^ (64 - a' - m)) = 64 - a' - m ∧ ¬ inW a b (rd V N (p + 14) m * 2 ^ (64 - a' - m)) then some (rd V N (p + 14) m * 2 ^ (64 - a' - m)) else none
/-- The difference that is read at p, how many bits, the window behind it. -/
def rX (a b V N p : Nat) : Option (Nat × Nat × Nat × Nat) :=
  if 8 * N < p + 1 then none else if rd V N p 1 = 0 then some (0, 1, a, b) else
  if 8 * N < p + 2 then none else if rd V N (p + 1) 1 = 0 then (rI a b V N p).map (fun x => (x, 2 + (64 - a - b), a, b)) else
  if 8 * N < p + 14 then none else (rO a b V N p (rd V N (p + 2) 6) (rd V N (p + 8) 6 + 1)).map (fun x => (x, 14 + (rd V N (p + 8) 6 + 1), rd V N (p + 2) 6, 64 - rd V N (p + 2) 6 - (rd V N (p + 8) 6 + 1)))
def gX (n L a b V N p : Nat) : Option (Nat × Nat × Nat × Nat) :=
  if n = 0 then (if 8 * N < p + 64 then none else some (rd V N p 64, 64, a, b))
  else (rX a b V N p).map (fun q => (L ^^^ q.1, q.2.1, q.2.2.1, q.2.2.2))

theorem shl_lt {a b y : Nat} (hab : a + b ≤ 64) (hy : y < 2 ^ (64 - a - b)) : y * 2 ^ b < 2 ^ (64 - a) := by
  rw [show 64 - a = (64 - a - b) + b by omega, Nat.pow_add]
  exact (Nat.mul_lt_mul_right (Nat.two_pow_pos b)).2 hy
theorem p64 {a : Nat} : 2 ^ (64 - a) ≤ 18446744073709551616 := by
  have : 2 ^ (64 - a) ≤ 2 ^ 64 := Nat.pow_le_pow_right (by decide) (by omega)
  exact this

theorem rI_ok {a b V N p x : Nat} (hw : OkW a b) (h : rI a b V N p = some x) : p + 2 + (64 - a - b) ≤ 8 * N ∧ x = rd V N (p + 2) (64 - a - b) * 2 ^ b ∧ x ≠ 0 ∧ x < 18446744073709551616 ∧ inW a b x ∧ x / 2 ^ b = rd V N (p + 2) (64 - a - b) := by
  unfold rI at h
  split at h
  · cases h
  · split at h
    · cases h
    · rename_i h1 h2
      cases h
      have hr := rd_lt V N (p + 2) (64 - a - b)
      have hab : a + b ≤ 63 := by
        rcases hw with ⟨rfl, rfl⟩ | h3
        · exfalso; apply h2
          simp only [Nat.sub_self, Nat.sub_zero, Nat.pow_zero] at hr ⊢
          omega
        · exact h3
      have h4 := shl_lt (by omega) hr
      generalize rd V N (p + 2) (64 - a - b) = y at *
      have h5 := p64 (a := a)
      exact ⟨by omega, rfl, h2, by omega, ⟨lz_ge (by omega) (by omega) h4, tz_ge (by omega) (by omega) rfl⟩, Nat.mul_div_cancel _ (Nat.two_pow_pos b)⟩

theorem rX_ok {a b V N p x k a' b' : Nat} (hw : OkW a b) (h : rX a b V N p = some (x, k, a', b')) : x < 18446744073709551616 ∧ k = dN a b x ∧ a' = dA a b x ∧ b' = dB a b x ∧ p + k ≤ 8 * N ∧ rd V N p k = dX a b x := by
  unfold rX at h
  have b0 := bit_lt V N p
  have b1 := bit_lt V N (p + 1)
  by_cases h1 : 8 * N < p + 1
  · rw [if_pos h1] at h; cases h
  rw [if_neg h1] at h
  by_cases h2 : rd V N p 1 = 0
  · rw [if_pos h2] at h; cases h
    exact ⟨by decide, by simp [dN], by simp [dA], by simp [dB], by omega, by simp [dX, h2]⟩
  rw [if_neg h2] at h
  by_cases h3 : 8 * N < p + 2
  · rw [if_pos h3] at h; cases h
  rw [if_neg h3] at h
  have r2 := rd_two (V := V) (N := N) (p := p) (by omega)
  by_cases h4 : rd V N (p + 1) 1 = 0
  · rw [if_pos h4] at h
    cases hI : rI a b V N p with
    | none => rw [hI] at h; cases h
    | some y =>
      rw [hI] at h
      cases h
      obtain ⟨i1, i2, i3, i4, i5, i6⟩ := rI_ok hw hI
      have eA : dA a b x = a := by unfold dA; rw [if_neg i3, if_pos i5]
      have eB : dB a b x = b := by unfold dB; rw [if_neg i3, if_pos i5]
      have eS : dS a b x = 64 - a - b := by unfold dS; rw [if_neg i3, eA, eB]
      refine ⟨i4, ?_, eA.symm, eB.symm, by omega, ?_⟩
      · unfold dN; rw [if_neg i3, if_pos i5, eS]
      · unfold dX
        rw [if_neg i3, if_pos i5, eS, eB, i6, rd_more _ _ _ _ _ (by omega), show rd V N p 2 = 2 by omega]
  rw [if_neg h4] at h
  by_cases h5 : 8 * N < p + 14
  · rw [if_pos h5] at h; cases h
  rw [if_neg h5] at h
  have r14 := rd_14 (V := V) (N := N) (p := p) (by omega)
  cases hO : rO a b V N p (rd V N (p + 2) 6) (rd V N (p + 8) 6 + 1) with
  | none => rw [hO] at h; cases h
  | some y =>
    rw [hO] at h
    cases h
    unfold rO at hO
    split at hO
    · cases hO
    split at hO
    · cases hO
    split at hO
    · rename_i o1 o2 o3
      cases hO
      obtain ⟨i3, i4, i5, i6⟩ := o3
      have hr := rd_lt V N (p + 14) (rd V N (p + 8) 6 + 1)
      have hm := rd_more V N p 14 (rd V N (p + 8) 6 + 1) (by omega)
      have hsix := six_lt V N (p + 2)
      generalize rd V N (p + 14) (rd V N (p + 8) 6 + 1) = z at *
      generalize rd V N (p + 2) 6 = A at *
      generalize rd V N (p + 8) 6 = M at *
      have hz : z < 2 ^ (64 - A - (64 - A - (M + 1))) := by rw [show 64 - A - (64 - A - (M + 1)) = M + 1 by omega]; exact hr
      have h6 := shl_lt (a := A) (b := 64 - A - (M + 1)) (by omega) hz
      have h7 := p64 (a := A)
      have hdiv : z * 2 ^ (64 - A - (M + 1)) / 2 ^ (64 - A - (M + 1)) = z := Nat.mul_div_cancel _ (Nat.two_pow_pos _)
      generalize hy : z * 2 ^ (64 - A - (M + 1)) = y at *
      have eA : dA a b y = A := by unfold dA; rw [if_neg i3, if_neg i6, i4]
      have eB : dB a b y = 64 - A - (M + 1) := by unfold dB; rw [if_neg i3, if_neg i6, i5]
      have eS : dS a b y = M + 1 := by unfold dS; rw [if_neg i3, eA, eB]; omega
      refine ⟨by omega, ?_, eA.symm, eB.symm, by omega, ?_⟩
      · unfold dN; rw [if_neg i3, if_neg i6, eS]
      · unfold dX
        rw [if_neg i3, if_neg i6, eS, eB, i4, hm, hdiv, r14, show rd V N p 2 = 3 by omega, show 3 * 4096 + (A * 64 + M) = 12288 + 64 * A + (M + 1 - 1) by omega]
    · cases hO

theorem rX_of {a b V N p x : Nat} (hw : OkW a b) (hx : x < 18446744073709551616) (hp : p + dN a b x ≤ 8 * N) (h : rd V N p (dN a b x) = dX a b x) : rX a b V N p = some (x, dN a b x, dA a b x, dB a b x) := by
  have b0 := bit_lt V N p
  have b1 := bit_lt V N (p + 1)
  by_cases h0 : x = 0
  · have e1 : dN a b x = 1 := by unfold dN; rw [if_pos h0]
    have e2 : dX a b x = 0 := by unfold dX; rw [if_pos h0]
    rw [e1, e2] at h
    rw [e1] at hp ⊢
    unfold rX dA dB
    rw [if_neg (by omega), if_pos h, if_pos h0, if_pos h0, h0]
  · obtain ⟨f1, f2, f3, f4⟩ := dS_facts hw h0 hx
    obtain ⟨g1, g2, g3⟩ := d_le hw h0 hx
    have hcut := tz_cut (b := dB a b x) (by omega) hx g3
    by_cases hin : inW a b x
    · have e1 : dN a b x = 2 + dS a b x := by unfold dN; rw [if_neg h0, if_pos hin]
      have e2 : dX a b x = 2 * 2 ^ dS a b x + x / 2 ^ dB a b x := by unfold dX; rw [if_neg h0, if_pos hin]
      have eA : dA a b x = a := by unfold dA; rw [if_neg h0, if_pos hin]
      have eB : dB a b x = b := by unfold dB; rw [if_neg h0, if_pos hin]
      rw [e1] at hp
      rw [e1, e2, rd_more _ _ _ _ _ (by omega)] at h
      obtain ⟨k1, k2⟩ := two_parts (rd_lt _ _ _ _) f4 h
      rw [rd_two (by omega)] at k1
      rw [e1, eA, eB]
      rw [f1, eA, eB] at k2 hp ⊢
      rw [eB] at hcut
      unfold rX rI
      rw [if_neg (by omega), if_neg (by omega), if_neg (by omega), if_pos (by omega), if_neg (by omega), k2, hcut, if_neg h0]
      rfl
    · have e1 : dN a b x = 14 + dS a b x := by unfold dN; rw [if_neg h0, if_neg hin]
      have e2 : dX a b x = (12288 + 64 * lz x + (dS a b x - 1)) * 2 ^ dS a b x + x / 2 ^ dB a b x := by unfold dX; rw [if_neg h0, if_neg hin]
      have eA : dA a b x = lz x := by unfold dA; rw [if_neg h0, if_neg hin]
      have eB : dB a b x = tz x := by unfold dB; rw [if_neg h0, if_neg hin]
      rw [e1] at hp
      rw [e1, e2, rd_more _ _ _ _ _ (by omega)] at h
      obtain ⟨k1, k2⟩ := two_parts (rd_lt _ _ _ _) f4 h
      rw [rd_14 (by omega), rd_two (by omega)] at k1
      have hlz := lz_le x
      have s1 := six_lt V N (p + 2)
      have s2 := six_lt V N (p + 8)
      have m1 : rd V N (p + 2) 6 = lz x := by omega
      have m2 : rd V N (p + 8) 6 + 1 = dS a b x := by omega
      have m3 : 64 - lz x - dS a b x = tz x := by omega
      rw [e1, eA, eB]
      rw [eB] at hcut k2
      unfold rX rO
      rw [if_neg (by omega), if_neg (by omega), if_neg (by omega), if_neg (by omega), if_neg (by omega), m1, m2, m3, if_neg (by omega), if_neg (by omega), k2, hcut, if_pos ⟨h0, rfl, rfl, hin⟩]
      rfl

theorem gX_ok {n L a b V N p v k a' b' : Nat} (hw : OkW a b) (hL : L < 18446744073709551616) (h : gX n L a b V N p = some (v, k, a', b')) : v < 18446744073709551616 ∧ k = cN n L a b v ∧ a' = cA n L a b v ∧ b' = cB n L a b v ∧ p + k ≤ 8 * N ∧ rd V N p k = cX n L a b v := by
  unfold gX at h
  unfold cN cA cB cX
  by_cases hn : n = 0
  · rw [if_pos hn] at h
    split at h
    · cases h
    · cases h
      simp only [if_pos hn]
      exact ⟨rd_lt V N p 64, trivial, trivial, trivial, by omega, trivial⟩
  · rw [if_neg hn] at h
    simp only [if_neg hn]
    cases hr : rX a b V N p with
    | none => rw [hr] at h; cases h
    | some q =>
      obtain ⟨x, k1, a1, b1⟩ := q
      rw [hr] at h
      cases h
      obtain ⟨h1, h2, h3, h4, h5, h6⟩ := rX_ok hw hr
      rw [xor_back]
      exact ⟨xor64 hL h1, h2, h3, h4, h5, h6⟩
theorem gX_of {n L a b V N p v : Nat} (hw : OkW a b) (hL : L < 18446744073709551616) (hv : v < 18446744073709551616) (hp : p + cN n L a b v ≤ 8 * N) (h : rd V N p (cN n L a b v) = cX n L a b v) : gX n L a b V N p = some (v, cN n L a b v, cA n L a b v, cB n L a b v) := by
  unfold cN cX at h
  unfold cN at hp
  unfold gX cN cA cB
  by_cases hn : n = 0
  · simp only [if_pos hn] at h hp ⊢
    rw [if_neg (by omega), h]
  · simp only [if_neg hn] at h hp ⊢
    rw [rX_of hw (xor64 hv hL) hp h]
    simp only [Option.map_some, xor_again]
set_option linter.unusedSimpArgs false

/-- The block g has the values xs, which may be written. -/
def Bx (w : World) (g : Nat) (t : TypeId) (xs : Array Value) : Prop := w.heap[g]? = some (.cells xs t (0, 0))
section
variable {w w' : World} {g : Nat} {t : TypeId} {xs : Array Value}
theorem Bx.lt (h : Bx w g t xs) : g < w.heap.size := (Array.getElem?_eq_some_iff.1 h).1
theorem Bx.fz (h : Bx w g t xs) (i : Nat) : w.frozen? ⟨g, i, none⟩ = false := frozen_of_row w g i _ t h
theorem Bx.new (w : World) (t : TypeId) (xs : Array Value) : Bx (w.alloc (.cells xs t)) w.heap.size t xs := heap_alloc_new w _
theorem Bx.new_at {w : World} {g : Nat} (hg : g = w.heap.size) (t : TypeId) (xs : Array Value) : Bx (w.alloc (.cells xs t)) g t xs := by subst hg; exact Bx.new w t xs
theorem Bx.kept (h : Bx w g t xs) {B : Nat} (hb : Below B w w') (hB : g < B) : Bx w' g t xs := (hb.block g hB).trans h
theorem Bx.below (h : Bx w g t xs) (hb : Below w.heap.size w w') : Bx w' g t xs := h.kept hb h.lt
theorem Bx.but (h : Bx w g t xs) {S : Nat → Prop} (hb : But S w w') (hS : ¬ S g) : Bx w' g t xs := (hb.block g h.lt hS).trans h
theorem Bx.alloc (h : Bx w g t xs) (o : Obj) : Bx (w.alloc o) g t xs := h.below ((Below.refl _ _).alloc (Nat.le_refl _) _)
theorem Bx.drewN (h : Bx w g t xs) (k : Nat) : Bx (w.drewN k) g t xs := h
theorem Bx.drew (h : Bx w g t xs) : Bx w.drew g t xs := h
theorem Bx.set1 (h : Bx w g t xs) (i : Nat) (u : Value) : Bx (w.setCell ⟨g, i, none⟩ u) g t (xs.setIfInBounds i u) := heap_setCell_same w g i _ t _ h
end
theorem below_drew {B : Nat} {w w' : World} (h : Below B w w') : Below B w w'.drew := ⟨h.os, h.tape, h.output, h.size, h.block⟩

/-- What a walk asks of a box of 2. -/
structure St2 (w : World) (g : Nat) (a b : Value) : Prop where
  c0 : w.cell? ⟨g, 0, none⟩ = some a
  c1 : w.cell? ⟨g, 1, none⟩ = some b
  f0 : w.frozen? ⟨g, 0, none⟩ = false
  f1 : w.frozen? ⟨g, 1, none⟩ = false
  o1 : ∀ u0, (w.setCell ⟨g, 0, none⟩ u0).cell? ⟨g, 1, none⟩ = some b

theorem Bx.st2 {w : World} {g : Nat} {t : TypeId} {a b : Value} (h : Bx w g t #[a, b]) : St2 w g a b :=
  ⟨by rw [cell_of_row w g 0 _ t (0, 0) h]; rfl, by rw [cell_of_row w g 1 _ t (0, 0) h]; rfl, h.fz 0, h.fz 1, fun u0 => by rw [cell_of_row _ g 1 _ t (0, 0) (h.set1 0 u0)]; rfl⟩

theorem Bx.set2 {w : World} {g : Nat} {t : TypeId} {a b : Value} (h : Bx w g t #[a, b]) (x0 x1 : Value) : Bx ((w.setCell ⟨g, 0, none⟩ x0).setCell ⟨g, 1, none⟩ x1) g t #[x0, x1] := ((h.set1 0 x0).set1 1 x1)

theorem below_set2 {w w' : World} {B g : Nat} (h : Below B w w') (hg : B ≤ g) (x0 x1 : Value) : Below B w ((w'.setCell ⟨g, 0, none⟩ x0).setCell ⟨g, 1, none⟩ x1) := ((h.setCell (p := ⟨g, 0, none⟩) hg x0).setCell (p := ⟨g, 1, none⟩) hg x1)

theorem but_set2 (w : World) (g : Nat) (x0 x1 : Value) : But (fun i => i = g) w ((w.setCell ⟨g, 0, none⟩ x0).setCell ⟨g, 1, none⟩ x1) := (((But.refl (fun i => i = g) w).setCell (p := ⟨g, 0, none⟩) (fun _ => rfl) x0).setCell (p := ⟨g, 1, none⟩) (fun _ => rfl) x1)

/-- What a walk asks of a box of 3. -/
structure St3 (w : World) (g : Nat) (a b c : Value) : Prop where
  c0 : w.cell? ⟨g, 0, none⟩ = some a
  c1 : w.cell? ⟨g, 1, none⟩ = some b
  c2 : w.cell? ⟨g, 2, none⟩ = some c
  f0 : w.frozen? ⟨g, 0, none⟩ = false
  f1 : w.frozen? ⟨g, 1, none⟩ = false
  f2 : w.frozen? ⟨g, 2, none⟩ = false
  o1 : ∀ u0, (w.setCell ⟨g, 0, none⟩ u0).cell? ⟨g, 1, none⟩ = some b
  o2 : ∀ u0 u1, ((w.setCell ⟨g, 0, none⟩ u0).setCell ⟨g, 1, none⟩ u1).cell? ⟨g, 2, none⟩ = some c

theorem Bx.st3 {w : World} {g : Nat} {t : TypeId} {a b c : Value} (h : Bx w g t #[a, b, c]) : St3 w g a b c :=
  ⟨by rw [cell_of_row w g 0 _ t (0, 0) h]; rfl, by rw [cell_of_row w g 1 _ t (0, 0) h]; rfl, by rw [cell_of_row w g 2 _ t (0, 0) h]; rfl, h.fz 0, h.fz 1, h.fz 2, fun u0 => by rw [cell_of_row _ g 1 _ t (0, 0) (h.set1 0 u0)]; rfl, fun u0 u1 => by rw [cell_of_row _ g 2 _ t (0, 0) ((h.set1 0 u0).set1 1 u1)]; rfl⟩

theorem Bx.set3 {w : World} {g : Nat} {t : TypeId} {a b c : Value} (h : Bx w g t #[a, b, c]) (x0 x1 x2 : Value) : Bx (((w.setCell ⟨g, 0, none⟩ x0).setCell ⟨g, 1, none⟩ x1).setCell ⟨g, 2, none⟩ x2) g t #[x0, x1, x2] := (((h.set1 0 x0).set1 1 x1).set1 2 x2)

theorem below_set3X {w w' : World} {B g : Nat} (h : Below B w w') (hg : B ≤ g) (x0 x1 x2 : Value) : Below B w (((w'.setCell ⟨g, 0, none⟩ x0).setCell ⟨g, 1, none⟩ x1).setCell ⟨g, 2, none⟩ x2) := (((h.setCell (p := ⟨g, 0, none⟩) hg x0).setCell (p := ⟨g, 1, none⟩) hg x1).setCell (p := ⟨g, 2, none⟩) hg x2)

theorem but_set3 (w : World) (g : Nat) (x0 x1 x2 : Value) : But (fun i => i = g) w (((w.setCell ⟨g, 0, none⟩ x0).setCell ⟨g, 1, none⟩ x1).setCell ⟨g, 2, none⟩ x2) := ((((But.refl (fun i => i = g) w).setCell (p := ⟨g, 0, none⟩) (fun _ => rfl) x0).setCell (p := ⟨g, 1, none⟩) (fun _ => rfl) x1).setCell (p := ⟨g, 2, none⟩) (fun _ => rfl) x2)

/-- What a walk asks of a box of 4. -/
structure St4 (w : World) (g : Nat) (a b c d : Value) : Prop where
  c0 : w.cell? ⟨g, 0, none⟩ = some a
  c1 : w.cell? ⟨g, 1, none⟩ = some b
  c2 : w.cell? ⟨g, 2, none⟩ = some c
  c3 : w.cell? ⟨g, 3, none⟩ = some d
  f0 : w.frozen? ⟨g, 0, none⟩ = false
  f1 : w.frozen? ⟨g, 1, none⟩ = false
  f2 : w.frozen? ⟨g, 2, none⟩ = false
  f3 : w.frozen? ⟨g, 3, none⟩ = false
  o1 : ∀ u0, (w.setCell ⟨g, 0, none⟩ u0).cell? ⟨g, 1, none⟩ = some b
  o2 : ∀ u0 u1, ((w.setCell ⟨g, 0, none⟩ u0).setCell ⟨g, 1, none⟩ u1).cell? ⟨g, 2, none⟩ = some c
  o3 : ∀ u0 u1 u2, (((w.setCell ⟨g, 0, none⟩ u0).setCell ⟨g, 1, none⟩ u1).setCell ⟨g, 2, none⟩ u2).cell? ⟨g, 3, none⟩ = some d

theorem Bx.st4 {w : World} {g : Nat} {t : TypeId} {a b c d : Value} (h : Bx w g t #[a, b, c, d]) : St4 w g a b c d :=
  ⟨by rw [cell_of_row w g 0 _ t (0, 0) h]; rfl, by rw [cell_of_row w g 1 _ t (0, 0) h]; rfl, by rw [cell_of_row w g 2 _ t (0, 0) h]; rfl, by rw [cell_of_row w g 3 _ t (0, 0) h]; rfl, h.fz 0, h.fz 1, h.fz 2, h.fz 3, fun u0 => by rw [cell_of_row _ g 1 _ t (0, 0) (h.set1 0 u0)]; rfl, fun u0 u1 => by rw [cell_of_row _ g 2 _ t (0, 0) ((h.set1 0 u0).set1 1 u1)]; rfl, fun u0 u1 u2 => by rw [cell_of_row _ g 3 _ t (0, 0) (((h.set1 0 u0).set1 1 u1).set1 2 u2)]; rfl⟩

theorem Bx.set4 {w : World} {g : Nat} {t : TypeId} {a b c d : Value} (h : Bx w g t #[a, b, c, d]) (x0 x1 x2 x3 : Value) : Bx ((((w.setCell ⟨g, 0, none⟩ x0).setCell ⟨g, 1, none⟩ x1).setCell ⟨g, 2, none⟩ x2).setCell ⟨g, 3, none⟩ x3) g t #[x0, x1, x2, x3] := ((((h.set1 0 x0).set1 1 x1).set1 2 x2).set1 3 x3)

theorem below_set4 {w w' : World} {B g : Nat} (h : Below B w w') (hg : B ≤ g) (x0 x1 x2 x3 : Value) : Below B w ((((w'.setCell ⟨g, 0, none⟩ x0).setCell ⟨g, 1, none⟩ x1).setCell ⟨g, 2, none⟩ x2).setCell ⟨g, 3, none⟩ x3) := ((((h.setCell (p := ⟨g, 0, none⟩) hg x0).setCell (p := ⟨g, 1, none⟩) hg x1).setCell (p := ⟨g, 2, none⟩) hg x2).setCell (p := ⟨g, 3, none⟩) hg x3)

theorem but_set4 (w : World) (g : Nat) (x0 x1 x2 x3 : Value) : But (fun i => i = g) w ((((w.setCell ⟨g, 0, none⟩ x0).setCell ⟨g, 1, none⟩ x1).setCell ⟨g, 2, none⟩ x2).setCell ⟨g, 3, none⟩ x3) := (((((But.refl (fun i => i = g) w).setCell (p := ⟨g, 0, none⟩) (fun _ => rfl) x0).setCell (p := ⟨g, 1, none⟩) (fun _ => rfl) x1).setCell (p := ⟨g, 2, none⟩) (fun _ => rfl) x2).setCell (p := ⟨g, 3, none⟩) (fun _ => rfl) x3)

theorem held81 : Tryz.prog.stoodInHeld 116 = false := by kernel_rfl
theorem under81 : Tryz.prog.underlying 116 = some (.struct (Tryz.prog.fieldsOf 116)) := by kernel_rfl

theorem run_eql81 (x0 x1 y0 y1 : Int) (w : World) : (binOp .eql 116 (.agg #[.int .i64 x0, .int .i64 x1]) (.agg #[.int .i64 y0, .int .i64 y1])).run Tryz.prog w = .ok (.bool (decide (x0 = y0 ∧ x1 = y1))) w := by
  rw [run_eql_struct, run_equalIn_agg w 9999 116 _ _ under81 held81]
  have hs : ∀ w, (sizeOf 3).run Tryz.prog w = .ok 1 w := fun w => by kernel_rfl
  have hs2 : ∀ w, (sizeOf 31).run Tryz.prog w = .ok 1 w := fun w => by kernel_rfl
  have hu := Tryz.underlying3
  have hu2 := Tryz.underlying31
  rw [show (Tryz.prog.fieldsOf 116).toList = _ from rfl]
  simp [Op.eqFields, go_sem]
  by_cases h0 : x0 = y0 <;> by_cases h1 : x1 = y1 <;> simp [h0, h1]

theorem held24 : Tryz.prog.stoodInHeld 61 = false := by kernel_rfl
theorem under24 : Tryz.prog.underlying 61 = some (.struct (Tryz.prog.fieldsOf 61)) := by kernel_rfl

theorem run_eql24 (x0 x1 x2 x3 y0 y1 y2 y3 : Int) (w : World) : (binOp .eql 61 (.agg #[.int .i64 x0, .int .u64 x1, .int .i64 x2, .int .i64 x3]) (.agg #[.int .i64 y0, .int .u64 y1, .int .i64 y2, .int .i64 y3])).run Tryz.prog w = .ok (.bool (decide (x0 = y0 ∧ x1 = y1 ∧ x2 = y2 ∧ x3 = y3))) w := by
  rw [run_eql_struct, run_equalIn_agg w 9999 61 _ _ under24 held24]
  have hs : ∀ w, (sizeOf 3).run Tryz.prog w = .ok 1 w := fun w => by kernel_rfl
  have hs2 : ∀ w, (sizeOf 31).run Tryz.prog w = .ok 1 w := fun w => by kernel_rfl
  have hu := Tryz.underlying3
  have hu2 := Tryz.underlying31
  rw [show (Tryz.prog.fieldsOf 61).toList = _ from rfl]
  simp [Op.eqFields, go_sem]
  by_cases h0 : x0 = y0 <;> by_cases h1 : x1 = y1 <;> by_cases h2 : x2 = y2 <;> by_cases h3 : x3 = y3 <;> simp [h0, h1, h2, h3]

theorem run_neq24 (x0 x1 x2 x3 y0 y1 y2 y3 : Int) (w : World) : (binOp .neq 61 (.agg #[.int .i64 x0, .int .u64 x1, .int .i64 x2, .int .i64 x3]) (.agg #[.int .i64 y0, .int .u64 y1, .int .i64 y2, .int .i64 y3])).run Tryz.prog w = .ok (.bool (!decide (x0 = y0 ∧ x1 = y1 ∧ x2 = y2 ∧ x3 = y3))) w := by
  rw [run_neq_struct, run_equalIn_agg w 9999 61 _ _ under24 held24]
  have hs : ∀ w, (sizeOf 3).run Tryz.prog w = .ok 1 w := fun w => by kernel_rfl
  have hs2 : ∀ w, (sizeOf 31).run Tryz.prog w = .ok 1 w := fun w => by kernel_rfl
  have hu := Tryz.underlying3
  have hu2 := Tryz.underlying31
  rw [show (Tryz.prog.fieldsOf 61).toList = _ from rfl]
  simp [Op.eqFields, go_sem]
  by_cases h0 : x0 = y0 <;> by_cases h1 : x1 = y1 <;> by_cases h2 : x2 = y2 <;> by_cases h3 : x3 = y3 <;> simp [h0, h1, h2, h3]

theorem held36X : Tryz.prog.stoodInHeld 51 = false := by kernel_rfl
theorem under36X : Tryz.prog.underlying 51 = some (.struct (Tryz.prog.fieldsOf 51)) := by kernel_rfl

theorem run_eql36X (x0 x1 x2 x3 y0 y1 y2 y3 : Int) (w : World) : (binOp .eql 51 (.agg #[.int .i64 x0, .int .u64 x1, .int .i64 x2, .int .i64 x3]) (.agg #[.int .i64 y0, .int .u64 y1, .int .i64 y2, .int .i64 y3])).run Tryz.prog w = .ok (.bool (decide (x0 = y0 ∧ x1 = y1 ∧ x2 = y2 ∧ x3 = y3))) w := by
  rw [run_eql_struct, run_equalIn_agg w 9999 51 _ _ under36X held36X]
  have hs : ∀ w, (sizeOf 3).run Tryz.prog w = .ok 1 w := fun w => by kernel_rfl
  have hs2 : ∀ w, (sizeOf 31).run Tryz.prog w = .ok 1 w := fun w => by kernel_rfl
  have hu := Tryz.underlying3
  have hu2 := Tryz.underlying31
  rw [show (Tryz.prog.fieldsOf 51).toList = _ from rfl]
  simp [Op.eqFields, go_sem]
  by_cases h0 : x0 = y0 <;> by_cases h1 : x1 = y1 <;> by_cases h2 : x2 = y2 <;> by_cases h3 : x3 = y3 <;> simp [h0, h1, h2, h3]

theorem zero81 : (Tryz.prog.info? 116).map (·.zero) = some (some (.agg #[.int .i64 0, .int .i64 0])) := by kernel_rfl
theorem zero24 : (Tryz.prog.info? 61).map (·.zero) = some (some (.agg #[.int .i64 0, .int .u64 0, .int .i64 0, .int .i64 0])) := by kernel_rfl
theorem zero36 : (Tryz.prog.info? 51).map (·.zero) = some (some (.agg #[.int .i64 0, .int .u64 0, .int .i64 0, .int .i64 0])) := by kernel_rfl

def isWin (a b : Int) : Bool := decide ((a = 64 ∧ b = 0) ∨ (0 ≤ a ∧ 0 ≤ b ∧ b < 64 - a))
def okSIX (n a b : Int) : Bool := isCnt n && isWin a b

set_option maxHeartbeats 400000 in
theorem count_anyX (n : Int) (w : World) : Calls Tryz.prog 90 #[.int .i64 n] w fun e w' => e = .returned (.bool (isCnt n)) ∧ w' = w := by
  unfold isCnt
  by_cases h0 : 0 ≤ n
  · by_cases h1 : n ≤ 4096
    · go_enter Tryz.func90, Tryz.ntmps90
      go_wp2
      go_ret
      exact ⟨ret_bool (by simp; omega), rfl⟩
    · go_enter Tryz.func90, Tryz.ntmps90
      go_wp2
      go_ret
      exact ⟨ret_bool (by simp; omega), rfl⟩
  · go_enter Tryz.func90, Tryz.ntmps90
    go_wp2
    go_ret
    exact ⟨ret_bool (by simp; omega), rfl⟩

set_option maxHeartbeats 400000 in
theorem none_any (w : World) : Calls Tryz.prog 62 #[] w fun e w' => e = .returned (.agg #[.int .i64 64, .int .i64 0]) ∧ Below w.heap.size w w' := by
  have hz := zero81
  have XX := Bx.new w 116 #[.int .i64 0, .int .i64 0]
  have B0 : Hid (Below w.heap.size w (w.alloc (.cells #[.int .i64 0, .int .i64 0] 116))) := (Below.refl _ w).alloc (Nat.le_refl _) _
  have X2 := (XX.set2 (.int .i64 64) (.int .i64 0)).st2
  have b2 := hide (below_set2 B0.out (Nat.le_refl _) (.int .i64 64) (.int .i64 0))
  obtain ⟨p0, p1, p2, p3, p4⟩ := XX.st2
  have o0 := X2.c0
  have o1 := X2.c1
  go_enter Tryz.func62, Tryz.ntmps62
  go_wp2_with fail
  refine bodyPost_ret (v := .agg #[.int .i64 64, .int .i64 0]) (by simp [results, Tryz.f62, go_sem, o0, o1]) rfl ?_
  exact ⟨rfl, (Below.refl _ w).alloc (Nat.le_refl _) _⟩

set_option maxHeartbeats 400000 in
theorem windowOf_any (n L a b : Int) (w : World) : Calls Tryz.prog 92 #[.agg #[.int .i64 n, .int .u64 L, .int .i64 a, .int .i64 b]] w fun e w' => e = .returned (.agg #[.int .i64 a, .int .i64 b]) ∧ Below w.heap.size w w' := by
  have B0 : Hid (Below w.heap.size w (w.alloc (.cells #[.int .i64 n, .int .u64 L, .int .i64 a, .int .i64 b] 61))) := (Below.refl _ w).alloc (Nat.le_refl _) _
  have B1 := hide (B0.out.alloc B0.out.size (.cells #[.int .i64 0, .int .i64 0] 116))
  have XX := Bx.new_at (w := w.alloc (.cells #[.int .i64 n, .int .u64 L, .int .i64 a, .int .i64 b] 61)) (g := w.heap.size + 1) (by simp) 116 #[.int .i64 0, .int .i64 0]
  have X2 := (XX.set2 (.int .i64 a) (.int .i64 b)).st2
  have b2 := hide (below_set2 (g := w.heap.size + 1) B1.out (by omega) (.int .i64 a) (.int .i64 b))
  obtain ⟨p0, p1, p2, p3, p4⟩ := XX.st2
  have o0 := X2.c0
  have o1 := X2.c1
  go_enter Tryz.func92, Tryz.ntmps92
  go_wp2_with fail
  refine bodyPost_ret (v := .agg #[.int .i64 a, .int .i64 b]) (by simp [results, Tryz.f92, go_sem, o0, o1]) rfl ?_
  exact ⟨rfl, by first | exact b2.out | exact B1.out | exact B0.out.alloc B0.out.size _⟩

end Go.Proofs.YtmjjedbdedemcaaGreatDoor
