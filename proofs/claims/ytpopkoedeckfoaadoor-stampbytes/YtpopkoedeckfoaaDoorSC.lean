/-
  fold, unfold.
-/
import Derived.Test.YtpopkoedeckfoaaDoorSB
namespace Go.Proofs.YtpopkoedeckfoaaDoor
open Go.RowKit
set_option linter.unusedVariables false
set_option linter.unusedSimpArgs false

theorem xor_all (a : Nat) (ha : a < 18446744073709551616) : a ^^^ 18446744073709551615 = 18446744073709551615 - a := by
  have h := congrArg BitVec.toNat (BitVec.xor_allOnes (x := BitVec.ofNat 64 a))
  rw [BitVec.toNat_xor, BitVec.toNat_not, BitVec.toNat_allOnes, BitVec.toNat_ofNat, Nat.mod_eq_of_lt (by omega)] at h
  simpa using h
theorem u64_xor_all (a : Nat) (ha : a < 18446744073709551616) : bits .xor .u64 (a : Int) 18446744073709551615 = ((18446744073709551615 - a : Nat) : Int) := by
  have := u64_xor_nat a 18446744073709551615 ha (by decide)
  rw [xor_all a ha] at this
  exact this
theorem i64_xor_all (a : Nat) (ha : a < 9223372036854775808) : bits .xor .i64 (a : Int) (-1) = -(a : Int) - 1 := by
  show IntKind.i64.wrap ((BitVec.ofInt 64 (a : Int) ^^^ BitVec.ofInt 64 (-1)).toNat : Int) = _
  rw [show BitVec.ofInt 64 (-1) = BitVec.allOnes 64 by decide, BitVec.toNat_xor, BitVec.toNat_allOnes, ofInt_u64 a (by omega), show 2 ^ 64 - 1 = 18446744073709551615 by decide, xor_all a (by omega), IntKind.wrap_i64]
  omega
theorem i64_xor_none (a : Nat) (ha : a < 9223372036854775808) : bits .xor .i64 (a : Int) 0 = (a : Int) := by
  show IntKind.i64.wrap ((BitVec.ofInt 64 (a : Int) ^^^ BitVec.ofInt 64 0).toNat : Int) = _
  rw [show BitVec.ofInt 64 0 = 0#64 by decide, BitVec.xor_zero, ofInt_u64 a (by omega), IntKind.wrap_i64]
  omega
theorem u64_and_one (a : Nat) (ha : a < 18446744073709551616) : bits .and .u64 (a : Int) 1 = ((a % 2 : Nat) : Int) := by
  have := u64_and_nat a 1 ha (by decide)
  rw [nat_mask1] at this
  exact this

set_option maxHeartbeats 400000 in
theorem fold_any (d : Int) (w : World) (h0 : -281474976710656 ≤ d) (h1 : d ≤ 281474976710656) : Calls Tryd.prog 50 #[.int .i64 d] w fun e w' => e = .returned (.int .u64 ((zig d : Nat) : Int)) ∧ w' = w := by
  by_cases hd : 0 ≤ d
  · have hz : Hid (bits .xor .u64 ((2 * d.toNat : Nat) : Int) 0 = ((zig d : Nat) : Int)) := by
      show _ = _
      have := u64_xor_nat (2 * d.toNat) 0 (by omega) (by decide)
      rw [Nat.xor_zero] at this
      rw [show zig d = 2 * d.toNat by unfold zig; rw [if_pos hd]; omega]
      exact this
    go_enter Tryd.func50, Tryd.ntmps50
    go_wp2
    go_ret
    refine ⟨ret_int ?_, rfl⟩
    rw [← hz.out]
    congr 1
    · (try simp only [IntKind.wrap_u64]); omega
    · (try simp only [IntKind.wrap_u64]); omega
  · have hz : Hid (bits .xor .u64 ((18446744073709551616 - 2 * (-d).toNat : Nat) : Int) 18446744073709551615 = ((zig d : Nat) : Int)) := by
      show _ = _
      rw [u64_xor_all _ (by omega), show zig d = 2 * (-d).toNat - 1 by unfold zig; rw [if_neg hd]; omega]
      congr 1
      omega
    go_enter Tryd.func50, Tryd.ntmps50
    go_wp2
    go_ret
    refine ⟨ret_int ?_, rfl⟩
    rw [← hz.out]
    congr 1
    · (try simp only [IntKind.wrap_u64]); omega
    · (try simp only [IntKind.wrap_u64]); omega

set_option maxHeartbeats 400000 in
theorem unfold_any (z : Nat) (w : World) (h : z < 281474976710656) : Calls Tryd.prog 55 #[.int .u64 (z : Int)] w fun e w' => e = .returned (.int .i64 (zag z)) ∧ w' = w := by
  have ha := u64_and_one z (by omega)
  by_cases h2 : z % 2 = 0
  · have hz := hide (i64_xor_none (z / 2) (by omega))
    rw [h2] at ha
    have hg : zag z = ((z / 2 : Nat) : Int) := by unfold zag; rw [if_pos h2]
    rw [hg]
    have hh := hide h2
    clear h2 hg
    go_enter Tryd.func55, Tryd.ntmps55
    go_wp2
    go_ret
    refine ⟨ret_int ?_, rfl⟩
    refine Eq.trans ?_ hz.out
    congr 1
  · have hz := hide (i64_xor_all (z / 2) (by omega))
    rw [show z % 2 = 1 by omega] at ha
    have hg : zag z = -((z / 2 : Nat) : Int) - 1 := by unfold zag; rw [if_neg h2]
    rw [hg]
    have hh := hide h2
    clear h2 hg
    go_enter Tryd.func55, Tryd.ntmps55
    go_wp2
    go_ret
    refine ⟨ret_int ?_, rfl⟩
    refine Eq.trans ?_ hz.out
    congr 1
end Go.Proofs.YtpopkoedeckfoaaDoor
