/-
  Numbers put one behind the other: how far, and which number of all bits they are.
-/
import Derived.Test.YtmddkinecplooaaDoorJ
namespace Go.Proofs.YtmddkinecplooaaDoor
open Go.RowKit
set_option linter.unusedVariables false

/-- How many bits the first k numbers have. -/
def posP (f : Nat → Nat) : Nat → Nat
  | 0 => 0
  | k + 1 => posP f k + f k
/-- The number that they are together. -/
def numP (f X : Nat → Nat) : Nat → Nat
  | 0 => 0
  | k + 1 => numP f X k * 2 ^ f k + X k % 2 ^ f k
theorem posP_le {f : Nat → Nat} (hf : ∀ k, f k ≤ 64) (k : Nat) : posP f k ≤ 64 * k := by
  induction k with
  | zero => simp [posP]
  | succ k ih => have := hf k; simp only [posP]; omega
theorem posP_mono (f : Nat → Nat) {i j : Nat} (h : i ≤ j) : posP f i ≤ posP f j := by
  induction j with
  | zero => obtain rfl : i = 0 := by omega
            exact Nat.le_refl _
  | succ j ih =>
    rcases Nat.lt_or_ge i (j + 1) with h1 | h1
    · have := ih (by omega); simp only [posP]; omega
    · obtain rfl : i = j + 1 := by omega
      exact Nat.le_refl _
theorem numP_front (f X : Nat → Nat) {i j : Nat} (h : i ≤ j) : numP f X j / 2 ^ (posP f j - posP f i) = numP f X i := by
  induction j with
  | zero => obtain rfl : i = 0 := by omega
            simp
  | succ j ih =>
    rcases Nat.lt_or_ge i (j + 1) with h1 | h1
    · have h2 := posP_mono f (show i ≤ j by omega)
      have h3 : X j % 2 ^ f j < 2 ^ f j := Nat.mod_lt _ (Nat.two_pow_pos _)
      simp only [posP, numP]
      rw [show posP f j + f j - posP f i = f j + (posP f j - posP f i) by omega, Nat.pow_add, ← Nat.div_div_eq_div_mul, Nat.mul_comm, Nat.mul_add_div (Nat.two_pow_pos _), Nat.div_eq_of_lt h3, Nat.add_zero]
      exact ih (by omega)
    · obtain rfl : i = j + 1 := by omega
      simp
/-- What is read of them. -/
theorem numP_read (f X : Nat → Nat) {k n N : Nat} (h : k < n) (hN : posP f n ≤ 8 * N) : rd (numP f X n * 2 ^ (8 * N - posP f n)) N (posP f k) (f k) = X k % 2 ^ f k := by
  have h1 := posP_mono f (show k + 1 ≤ n by omega)
  have h2 : posP f (k + 1) = posP f k + f k := rfl
  rw [rd_of_holds hN (by omega), show posP f n - posP f k - f k = posP f n - posP f (k + 1) by omega, numP_front f X (show k + 1 ≤ n by omega)]
  show (numP f X k * 2 ^ f k + X k % 2 ^ f k) % 2 ^ f k = _
  rw [Nat.mul_comm, Nat.mul_add_mod, Nat.mod_mod]

theorem v64 {a b : Int} (h : a = b) : Value.int .i64 a = .int .i64 b := by rw [h]

end Go.Proofs.YtmddkinecplooaaDoor
