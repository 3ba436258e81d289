/-
  A list of numbers of bits that came in; a writer that has what a reader has read.
-/
import Derived.Test.YtpopkoedeckfoaaDoorK
namespace Go.Proofs.YtpopkoedeckfoaaDoor
open Go.RowKit
set_option linter.unusedVariables false

def iC (li : List Int) (k : Nat) : Int := li.getD k 0
def iN (li : List Int) (k : Nat) : Nat := amg (iC li k) 65
theorem iN_le (li : List Int) (k : Nat) : iN li k ≤ 64 := by have := amg_lt (iC li k) 65 (by omega); unfold iN; omega
theorem HasI.c_in {w : World} {a : Option Addr} {len cap : Nat} {l : List Int} (h : HasI w a len cap l) (k : Nat) (hk : k < len) : -9223372036854775808 ≤ iC l k ∧ iC l k ≤ 9223372036854775807 := by
  have hl := h.hlen
  exact h.range (l.getD k 0) (by simp [List.getD, List.getElem?_eq_getElem (show k < l.length by omega)])
theorem HasI.amg {w : World} {a : Option Addr} {len cap : Nat} {l : List Int} (h : HasI w a len cap l) (k : Nat) (hk : k < len) : ∀ w', Calls Tryd.prog 10 #[.int .i64 (iC l k), .int .i64 65] w' fun e w'' => e = .returned (.int .i64 (iN l k : Int)) ∧ w'' = w' :=
  fun w' => among_any (iC l k) 65 (h.c_in k hk) (by omega) (by omega) w'
theorem HasI.look {w wr : World} {b off len cap : Nat} {l : List Int} (h : HasI w (some ⟨b, off, none⟩) len cap l) (hb : Below w.heap.size w wr) (k : Nat) (hk : k < len) :
    wr.cell? ⟨b, off + k, none⟩ = some (.int .i64 (iC l k)) := by
  obtain ⟨b', off', e, _, hc⟩ := (h.kept hb (Nat.le_refl _)).cells (by omega)
  cases e
  exact hc k hk

/-- What was read, put again, is what was read so far. -/
theorem rd_front (V N P n : Nat) (h : P + n ≤ 8 * N) : rd V N 0 P * 2 ^ n + rd V N P n % 2 ^ n = rd V N 0 (P + n) := by
  rw [Nat.mod_eq_of_lt (rd_lt _ _ _ _), rd_more V N 0 P n (by omega), Nat.zero_add]
theorem rd_lt64 (V N P n : Nat) (h : n ≤ 64) : rd V N P n < 18446744073709551616 := Nat.lt_of_lt_of_le (rd_lt V N P n) (Nat.pow_le_pow_right (n := 2) (by decide) h)
theorem holds_self (l : List Int) (hl : ∀ x ∈ l, 0 ≤ x ∧ x ≤ 255) : Holds l (rd (num l) l.length 0 (8 * l.length)) (8 * l.length) := by
  have h1 := num_lt l hl
  rw [pow256] at h1
  refine ⟨hl, Nat.le_refl _, by omega, ?_, rd_lt _ _ _ _⟩
  rw [Nat.sub_self, Nat.pow_zero, Nat.mul_one]
  unfold rd
  rw [show 8 * l.length - 0 - 8 * l.length = 0 by omega, Nat.pow_zero, Nat.div_one, Nat.mod_eq_of_lt h1]
theorem getRdBits {w : World} {base p n0 : Nat} {v : Value} {l : List Int} (h : Rd w base p v l n0) (n : Nat) (hn : n ≤ 64) (hroom : 8 * l.length < n0 + n) :
    Calls Tryd.prog 21 #[.pointer (some ⟨p, 0, none⟩), .int .i64 (n : Int)] w fun e w' => e = .returned (.tuple #[.int .u64 0, .int .i64 50]) ∧ ∃ k, w' = w.drewN k := get_bits h.1 h.2.2.1 n hn h.2.2.2 hroom
end Go.Proofs.YtpopkoedeckfoaaDoor
