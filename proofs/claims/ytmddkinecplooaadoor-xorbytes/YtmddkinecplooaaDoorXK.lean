/-
  The reference's right and ends.
-/
import Derived.Test.YtmddkinecplooaaDoorXI
namespace Go.Proofs.YtmddkinecplooaaDoor
open Go.RowKit
set_option linter.unusedVariables false
set_option linter.unusedSimpArgs false

set_option maxRecDepth 100000 in
set_option maxHeartbeats 1000000 in
theorem right_any (n L a b : Int) (w : World) : Calls Tryd.prog 41 #[.agg #[.int .i64 n, .int .u64 L, .int .i64 a, .int .i64 b]] w fun e w' => e = .returned (.bool (okSI n a b)) ∧ Below w.heap.size w w' := by
  have B0 : Hid (Below w.heap.size w (w.alloc (.cells #[.int .i64 n, .int .u64 L, .int .i64 a, .int .i64 b] 36))) := (Below.refl _ w).alloc (Nat.le_refl _) _
  unfold okSI isCnt isWin
  by_cases h1 : n < 0
  · go_enter Tryd.func41, Tryd.ntmps41
    go_wp2
    go_ret
    exact ⟨ret_bool (by first | (simp; omega) | (simp; done) | omega | (rw [Bool.eq_iff_iff]; simp; omega)), B0.out⟩
  · by_cases h2 : 4096 < n
    · go_enter Tryd.func41, Tryd.ntmps41
      go_wp2
      go_ret
      exact ⟨ret_bool (by first | (simp; omega) | (simp; done) | omega | (rw [Bool.eq_iff_iff]; simp; omega)), B0.out⟩
    · by_cases h3 : a = 64
      · subst h3
        by_cases h4 : b = 0
        · subst h4
          go_enter Tryd.func41, Tryd.ntmps41
          go_wp2
          go_ret
          exact ⟨ret_bool (by first | (simp; omega) | (simp; done) | omega | (rw [Bool.eq_iff_iff]; simp; omega)), B0.out⟩
        · go_enter Tryd.func41, Tryd.ntmps41
          go_wp2
          go_ret
          exact ⟨ret_bool (by first | (simp; omega) | (simp; done) | omega | (rw [Bool.eq_iff_iff]; simp; omega)), B0.out⟩
      · by_cases h4 : 0 ≤ a
        · by_cases h5 : a ≤ 63
          · by_cases h6 : 0 ≤ b
            · by_cases h7 : b ≤ 63
              · by_cases h8 : a + b ≤ 63
                · go_enter Tryd.func41, Tryd.ntmps41
                  go_wp2
                  go_ret
                  exact ⟨ret_bool (by first | (simp; omega) | (simp; done) | omega | (rw [Bool.eq_iff_iff]; simp; omega)), B0.out⟩
                · go_enter Tryd.func41, Tryd.ntmps41
                  go_wp2
                  go_ret
                  exact ⟨ret_bool (by first | (simp; omega) | (simp; done) | omega | (rw [Bool.eq_iff_iff]; simp; omega)), B0.out⟩
              · go_enter Tryd.func41, Tryd.ntmps41
                go_wp2
                go_ret
                exact ⟨ret_bool (by first | (simp; omega) | (simp; done) | omega | (rw [Bool.eq_iff_iff]; simp; omega)), B0.out⟩
            · go_enter Tryd.func41, Tryd.ntmps41
              go_wp2
              go_ret
              exact ⟨ret_bool (by first | (simp; omega) | (simp; done) | omega | (rw [Bool.eq_iff_iff]; simp; omega)), B0.out⟩
          · go_enter Tryd.func41, Tryd.ntmps41
            go_wp2
            go_ret
            exact ⟨ret_bool (by first | (simp; omega) | (simp; done) | omega | (rw [Bool.eq_iff_iff]; simp; omega)), B0.out⟩
        · go_enter Tryd.func41, Tryd.ntmps41
          go_wp2
          go_ret
          exact ⟨ret_bool (by first | (simp; omega) | (simp; done) | omega | (rw [Bool.eq_iff_iff]; simp; omega)), B0.out⟩

theorem lead_lt {x k : Nat} (h0 : 0 < x) (hx : x < 18446744073709551616) (hk : k < lz x) : x * 2 ^ k < 9223372036854775808 := by
  have h1 := lz_hi h0 hx
  have h2 := lz_le x
  have h3 : x * 2 ^ k < 2 ^ (64 - lz x) * 2 ^ k := (Nat.mul_lt_mul_right (Nat.two_pow_pos k)).2 h1
  rw [← Nat.pow_add] at h3
  have h4 : 2 ^ (64 - lz x + k) ≤ 2 ^ 63 := Nat.pow_le_pow_right (by decide) (by omega)
  omega
theorem lead_ge {x : Nat} (h0 : 0 < x) (hx : x < 18446744073709551616) : 9223372036854775808 ≤ x * 2 ^ lz x := by
  have h1 := lz_lo h0 hx
  have h2 := lz_le x
  have h3 : 2 ^ (63 - lz x) * 2 ^ lz x ≤ x * 2 ^ lz x := Nat.mul_le_mul_right _ h1
  rw [← Nat.pow_add, show 63 - lz x + lz x = 63 by omega] at h3
  exact h3
theorem trail_even {x k : Nat} (h0 : 0 < x) (hx : x < 18446744073709551616) (hk : k < tz x) : x / 2 ^ k % 2 = 0 := by
  obtain ⟨m, h1, h2⟩ := tz_spec h0 hx
  have e : x = 2 ^ k * (2 * (2 ^ (tz x - k - 1) * (2 * m + 1))) := by
    rw [← Nat.mul_assoc, ← Nat.mul_assoc, ← Nat.pow_succ, ← Nat.pow_add, show k + 1 + (tz x - k - 1) = tz x by omega]
    exact h1
  rw [e, Nat.mul_div_cancel_left _ (Nat.two_pow_pos k)]
  omega
theorem trail_odd {x : Nat} (h0 : 0 < x) (hx : x < 18446744073709551616) : x / 2 ^ tz x % 2 = 1 := by
  obtain ⟨m, h1, h2⟩ := tz_spec h0 hx
  have e : x / 2 ^ tz x = 2 * m + 1 := by
    have : x / 2 ^ tz x = 2 ^ tz x * (2 * m + 1) / 2 ^ tz x := by rw [← h1]
    rw [this, Nat.mul_div_cancel_left _ (Nat.two_pow_pos _)]
  omega

set_option maxHeartbeats 2000000 in
theorem ends_any (x : Nat) (w : World) (h0 : 0 < x) (hx : x < 18446744073709551616) : Calls Tryd.prog 42 #[.int .u64 (x : Int)] w fun e w' => e = .returned (.tuple #[.int .i64 ((lz x : Nat) : Int), .int .i64 ((tz x : Nat) : Int)]) ∧ w' = w := by
  have hl := hide (fun k => lead_lt (k := k) h0 hx)
  have hg := hide (lead_ge h0 hx)
  have he := hide (fun k => trail_even (k := k) h0 hx)
  have ho := hide (trail_odd h0 hx)
  have hlz := lz_le x
  have htz := hide (show tz x ≤ 63 by have := lz_tz h0 hx; omega)
  replace h0 := hide h0
  replace hx := hide hx
  generalize lz x = A at *
  generalize tz x = B at *
  go_enter Tryd.func42, Tryd.ntmps42
  go_wp2_with fail
  go_loopw [4, 6] (fun lv yv wr => ∃ (k y : Nat), k ≤ A ∧ lv = .int .i64 (k : Int) ∧ yv = .int .u64 (y : Int) ∧ Hid (y = x * 2 ^ k) ∧ wr = w) (fun lv _ _ => A - (intOf lv).toNat)
  case atStart => exact ⟨0, x, Nat.zero_le _, rfl, rfl, by show _ = _; simp, rfl⟩
  case round =>
    obtain ⟨k, y, hk, rfl, rfl, hy, rfl⟩ := hrel
    by_cases hlt : k < A
    · have h1 := hl.out k hlt
      rw [← hy.out] at h1
      have i1 : (y : Int) < 9223372036854775808 := by omega
      have i2 : (k : Int) ≤ 63 := by omega
      have hy2 : Hid (2 * y = x * 2 ^ (k + 1)) := by show _ = _; rw [hy.out, Nat.pow_succ, Nat.mul_comm 2 (x * 2 ^ k), Nat.mul_assoc]
      have e2 : (2 : Int) * (y : Int) = ((2 * y : Nat) : Int) := by omega
      generalize 2 * y = y' at *
      have i3 : (y' : Int) < 18446744073709551616 := by omega
      replace h1 := hide h1
      go_wp2_with fail
      go_roundw
      case rel => exact ⟨k + 1, y', by omega, by go_num, rfl, hy2, trivial⟩
      case measure => simp [intOf]; omega
    · obtain rfl : k = A := by omega
      have h1 := hg.out
      rw [← hy.out] at h1
      have i1 : ¬ (y : Int) < 9223372036854775808 := by omega
      replace h1 := hide h1
      clear hl hg
      go_wp2_with fail
      go_loopw [5, 7] (fun tv zv w2 => ∃ (j z : Nat), j ≤ B ∧ tv = .int .i64 (j : Int) ∧ zv = .int .u64 (z : Int) ∧ Hid (z = x / 2 ^ j) ∧ w2 = wr) (fun tv _ _ => B - (intOf tv).toNat)
      case atStart => exact ⟨0, x, Nat.zero_le _, rfl, rfl, by show _ = _; simp, rfl⟩
      case round =>
        obtain ⟨j, z, hj, rfl, rfl, hz, rfl⟩ := hrel
        by_cases hlt2 : j < B
        · have h2 := he.out j hlt2
          rw [← hz.out] at h2
          have i4 : (z : Int) % 2 = 0 := by omega
          have i5 : (j : Int) ≤ 63 := by have := htz.out; omega
          have hz2 : Hid (z / 2 = x / 2 ^ (j + 1)) := by show _ = _; rw [hz.out, Nat.pow_succ, Nat.div_div_eq_div_mul]
          have e2 : (z : Int) / 2 = ((z / 2 : Nat) : Int) := by omega
          have hzx : z / 2 ≤ x := by rw [hz.out]; exact Nat.le_trans (Nat.div_le_self _ _) (Nat.div_le_self _ _)
          have hxx := hx.out
          have i6 : ((z / 2 : Nat) : Int) < 18446744073709551616 := by omega
          replace hzx := hide hzx
          replace hxx := hide hxx
          generalize z / 2 = z' at *
          replace h2 := hide h2
          go_wp2_with fail
          go_roundw
          case rel => exact ⟨j + 1, z', by omega, by go_num, rfl, hz2, trivial⟩
          case measure => simp [intOf]; omega
        · obtain rfl : j = B := by omega
          have h2 := ho.out
          rw [← hz.out] at h2
          have i4 : ¬ (z : Int) % 2 = 0 := by omega
          replace h2 := hide h2
          go_wp2_with fail
          go_ret2
          exact ⟨rfl, rfl⟩
end Go.Proofs.YtmddkinecplooaaDoor
