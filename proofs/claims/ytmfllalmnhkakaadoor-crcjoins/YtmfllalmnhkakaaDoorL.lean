/-
  The walks of times, power and Join.
-/
import Derived.Test.YtmfllalmnhkakaaDoorK
namespace Go.Proofs.YtmfllalmnhkakaaDoor
open Go.RowKit
set_option linter.unusedVariables false

theorem s_step {y : Nat} (hy : y < 4294967296) : bits .xor .u32 ((y : Int) / 2) (bits .and .u32 (y : Int) 1 * 2197175160 % 4294967296) = ((S y : Nat) : Int) := by
  have h1 : bits .and .u32 (y : Int) 1 = ((y % 2 : Nat) : Int) := by
    have := u32_and_nat y 1 hy (by decide)
    rw [nat_mask1] at this
    exact this
  have h2 : ((y % 2 : Nat) : Int) * 2197175160 % 4294967296 = ((y % 2 * 2197175160 : Nat) : Int) := by omega
  have h3 := u32_xor_nat (y / 2) (y % 2 * 2197175160) (by omega) (by omega)
  rw [h1, h2]
  unfold S
  rw [← h3]
  rfl
theorem bit_test {x k : Nat} (hx : x < 4294967296) (hk : k < 32) : (bits .and .u32 (x : Int) (2147483648 / 2 ^ k) != 0) = decide (x / 2 ^ (31 - k) % 2 = 1) := by
  have e : (2147483648 : Int) / 2 ^ k = ((2 ^ (31 - k) : Nat) : Int) := by
    have h1 : (2147483648 : Nat) / 2 ^ k = 2 ^ (31 - k) := by
      rw [show (2147483648 : Nat) = 2 ^ (31 - k) * 2 ^ k by rw [← Nat.pow_add, show 31 - k + k = 31 by omega]]
      exact Nat.mul_div_cancel _ (Nat.two_pow_pos k)
    rw [← h1]
    simp
  have hp : 2 ^ (31 - k) < 4294967296 := by
    have : (2 : Nat) ^ (31 - k) ≤ 2 ^ 31 := Nat.pow_le_pow_right (by decide) (by omega)
    omega
  rw [e, u32_and_nat x _ hx hp, nat_bit]
  have hpos : 0 < 2 ^ (31 - k) := Nat.two_pow_pos _
  rcases Nat.mod_two_eq_zero_or_one (x / 2 ^ (31 - k)) with h | h
  · rw [h]; simp
  · rw [h]
    generalize (2 : Nat) ^ (31 - k) = v at hpos ⊢
    simp
    omega
theorem xor32 {a b : Nat} (ha : a < 4294967296) (hb : b < 4294967296) : bits .xor .u32 (a : Int) (b : Int) = ((a ^^^ b : Nat) : Int) := u32_xor_nat a b ha hb
theorem xor_lt {a b : Nat} (ha : a < 4294967296) (hb : b < 4294967296) : a ^^^ b < 4294967296 := Nat.xor_lt_two_pow (n := 32) ha hb

set_option maxHeartbeats 1000000 in
theorem times_any (x y : Nat) (hx : x < 4294967296) (hy : y < 4294967296) (w : World) :
    Calls Tryd.prog 30 #[.int .u32 (x : Int), .int .u32 (y : Int)] w fun e w' => e = .returned (.int .u32 (T x y : Nat)) ∧ w' = w := by
  go_enter Tryd.func30, Tryd.ntmps30
  go_wp2
  go_loop [1, 5, 8] (fun v o i => ∃ k y' o' : Nat, k ≤ 32 ∧ i = .int .i64 k ∧ v = .int .u32 (y' : Int) ∧ o = .int .u32 (o' : Int) ∧ y' < 4294967296 ∧ o' < 4294967296 ∧ Hid (y' = Sn k y) ∧ Hid (o' = Tm x y k)) (fun _ _ i => 32 - (intOf i).toNat)
  case atStart => exact ⟨0, y, 0, by omega, rfl, rfl, rfl, hy, by decide, rfl, rfl⟩
  case round =>
    obtain ⟨k, y', o', hk, rfl, rfl, rfl, hy', ho', e1, e2⟩ := hrel
    go_wp2
    · have h1 : (bits .and .u32 (x : Int) (2147483648 / 2 ^ k) != 0) = true := by assumption
      have h2 : (k : Int) < 32 := by assumption
      rw [bit_test hx (by omega)] at h1
      go_round
      case rel => exact ⟨k + 1, S y', o' ^^^ y', by omega, by go_num, v32 (s_step hy'), v32 (xor32 ho' hy'), S_lt hy', xor_lt ho' hy', by rw [e1.out]; exact (Sn_succ k y).symm, by
        show o' ^^^ y' = Tm x y (k + 1)
        simp only [Tm]
        rw [if_pos (of_decide_eq_true h1), e2.out, e1.out]⟩
      case measure => simp [intOf]; omega
    · have h1 : (bits .and .u32 (x : Int) (2147483648 / 2 ^ k) != 0) = false := by assumption
      have h2 : (k : Int) < 32 := by assumption
      rw [bit_test hx (by omega)] at h1
      go_round
      case rel => exact ⟨k + 1, S y', o', by omega, by go_num, v32 (s_step hy'), rfl, S_lt hy', ho', by rw [e1.out]; exact (Sn_succ k y).symm, by
        show o' = Tm x y (k + 1)
        simp only [Tm]
        rw [if_neg (of_decide_eq_false h1), e2.out, Nat.xor_zero]⟩
      case measure => simp [intOf]; omega
    · have h2 : 32 ≤ (k : Int) := by assumption
      obtain rfl : k = 32 := by omega
      go_ret
      exact ⟨ret32 (by rw [e2.out]; rfl), rfl⟩

theorem i64_and1 {r : Nat} (h : r ≤ 9223372036854775807) : bits .and .i64 (r : Int) 1 = ((r % 2 : Nat) : Int) := by
  show IntKind.i64.wrap ((BitVec.ofInt 64 (r : Int) &&& BitVec.ofInt 64 ((1 : Nat) : Int)).toNat : Int) = _
  rw [BitVec.toNat_and, ofInt_u64 r (by omega), ofInt_u64 1 (by decide), nat_mask1, IntKind.wrap_i64]
  omega

set_option maxHeartbeats 1000000 in
theorem power_any (n : Nat) (hn : n ≤ 9223372036854775807) (w : World) :
    Calls Tryd.prog 31 #[.int .u32 8388608, .int .i64 (n : Int)] w fun e w' => ∃ o : Nat, e = .returned (.int .u32 (o : Int)) ∧ o < 4294967296 ∧ (∀ v, v < 4294967296 → T o v = Sn (8 * n) v) ∧ w' = w := by
  go_enter Tryd.func31, Tryd.ntmps31
  go_wp2
  go_loop [0, 5, 6] (fun x o i => ∃ x' o' r : Nat, r ≤ n ∧ i = .int .i64 r ∧ x = .int .u32 (x' : Int) ∧ o = .int .u32 (o' : Int) ∧ Hid (Pow n o' x' r)) (fun _ _ i => (intOf i).toNat)
  case atStart => exact ⟨8388608, 2147483648, n, by omega, rfl, rfl, rfl, pow_start n⟩
  case round =>
    obtain ⟨x', o', r, hr, rfl, rfl, rfl, hp⟩ := hrel
    have ho := hp.out.ho
    have hx := hp.out.hx
    have hb := hide (i64_and1 (r := r) (by omega))
    have h64 : (r : Int) ≤ 9223372036854775807 := by omega
    go_wp2_with fail
    · have h1 : (bits .and .i64 (r : Int) 1 == 1) = true := by assumption
      have h2 : 0 < r := by assumption
      have h3 : r % 2 = 1 := by rw [hb.out] at h1; have := beq_iff_eq.1 h1; omega
      refine (times_any o' x' ho hx w).mono ?_
      rintro e w1 ⟨rfl, rfl⟩
      go_wp2_with fail
      refine (times_any x' x' hx hx w1).mono ?_
      rintro e w2 ⟨rfl, rfl⟩
      go_wp2
      go_round
      case rel => exact ⟨T x' x', T o' x', r / 2, by omega, v64 (by omega), rfl, rfl, hp.out.odd h3⟩
      case measure => simp [intOf]; omega
    · have h1 : (bits .and .i64 (r : Int) 1 == 1) = false := by assumption
      have h2 : 0 < r := by assumption
      have h3 : r % 2 = 0 := by rw [hb.out] at h1; have := beq_eq_false_iff_ne.1 h1; omega
      refine (times_any x' x' hx hx w).mono ?_
      rintro e w2 ⟨rfl, rfl⟩
      go_wp2
      go_round
      case rel => exact ⟨T x' x', o', r / 2, by omega, v64 (by omega), rfl, rfl, hp.out.square h3⟩
      case measure => simp [intOf]; omega
    · have h2 : ¬ 0 < r := by assumption
      obtain rfl : r = 0 := by omega
      go_ret
      exact ⟨o', rfl, ho, fun v hv => hp.out.done hv, rfl⟩

set_option maxHeartbeats 1000000 in
theorem join_any (a b n : Nat) (ha : a < 4294967296) (hb : b < 4294967296) (hn : n ≤ 9223372036854775807) (w : World) :
    Calls Tryd.prog 24 #[.int .u32 (a : Int), .int .u32 (b : Int), .int .i64 (n : Int)] w fun e w' => e = .returned (.tuple #[.int .u32 ((Sn (8 * n) a ^^^ b : Nat) : Int), .int .i64 0]) ∧ w' = w := by
  have hx := xor32 (Sn_lt (8 * n) ha) hb
  have hz := hide (rfl : Sn (8 * n) a = Sn (8 * n) a)
  generalize hzz : Sn (8 * n) a ^^^ b = z at hx ⊢
  clear hzz
  go_enter Tryd.func24, Tryd.ntmps24
  go_wp2_with fail
  refine (power_any n hn w).mono ?_
  rintro e w1 ⟨o, rfl, ho, hv, rfl⟩
  have hv := hide hv
  go_wp2_with fail
  refine (times_any o a ho ha w1).mono ?_
  rintro e w2 ⟨rfl, rfl⟩
  rw [hv.out a ha]
  go_wp2
  go_ret2
  exact ⟨rfl, rfl⟩

set_option maxHeartbeats 1000000 in
theorem join_neg (a b n : Int) (hn : n < 0) (w : World) :
    Calls Tryd.prog 24 #[.int .u32 a, .int .u32 b, .int .i64 n] w fun e w' => e = .returned (.tuple #[.int .u32 0, .int .i64 2]) ∧ w' = w := by
  go_enter Tryd.func24, Tryd.ntmps24
  go_wp2
  go_ret2
  exact ⟨rfl, rfl⟩

set_option maxHeartbeats 1000000 in
theorem rjoin_neg (a b n : Int) (hn : n < 0) (w : World) :
    Calls Tryd.prog 25 #[.int .u32 a, .int .u32 b, .int .i64 n] w fun e w' => e = .returned (.tuple #[.int .u32 0, .int .i64 2]) ∧ w' = w := by
  go_enter Tryd.func25, Tryd.ntmps25
  go_wp2
  go_ret2
  exact ⟨rfl, rfl⟩
end Go.Proofs.YtmfllalmnhkakaaDoor
