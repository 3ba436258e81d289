/-
  A list of numbers of bits that came in; a writer that has what a reader has read.
-/
import Derived.Test.YtmddkinecplooaaDoorK
namespace Go.Proofs.YtmddkinecplooaaDoor
open Go.RowKit
set_option linter.unusedVariables false

/-- What was read, put again, is what was read so far. -/
theorem rd_front (V N P n : Nat) (h : P + n ≤ 8 * N) : rd V N 0 P * 2 ^ n + rd V N P n % 2 ^ n = rd V N 0 (P + n) := by
  rw [Nat.mod_eq_of_lt (rd_lt _ _ _ _), rd_more V N 0 P n (by omega), Nat.zero_add]
theorem rd_lt64 (V N P n : Nat) (h : n ≤ 64) : rd V N P n < 18446744073709551616 := Nat.lt_of_lt_of_le (rd_lt V N P n) (Nat.pow_le_pow_right (n := 2) (by decide) h)
theorem holds_self (l : List Int) (hl : ∀ x ∈ l, 0 ≤ x ∧ x ≤ 255) : Holds l (rd (num l) l.length 0 (8 * l.length)) (8 * l.length) := by
  have h1 := num_lt l hl
  rw [pow256] at h1
  refine ⟨hl, Nat.le_refl _, by omega, ?_, rd_lt _ _ _ _⟩
  rw [Nat.sub_self, Nat.pow_zero, Nat.mul_one]
  unfold rd
  rw [show 8 * l.length - 0 - 8 * l.length = 0 by omega, Nat.pow_zero, Nat.div_one, Nat.mod_eq_of_lt h1]
theorem getRdBits {w : World} {base p n0 : Nat} {v : Value} {l : List Int} (h : Rd w base p v l n0) (n : Nat) (hn : n ≤ 64) (hroom : 8 * l.length < n0 + n) :
    Calls Tryd.prog 23 #[.pointer (some ⟨p, 0, none⟩), .int .i64 (n : Int)] w fun e w' => e = .returned (.tuple #[.int .u64 0, .int .i64 50]) ∧ ∃ k, w' = w.drewN k := get_bits h.1 h.2.2.1 n hn h.2.2.2 hroom
end Go.Proofs.YtmddkinecplooaaDoor
