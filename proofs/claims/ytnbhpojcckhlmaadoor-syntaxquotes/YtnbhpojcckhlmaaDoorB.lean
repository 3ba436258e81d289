/-
  Bytes of a pattern; the small functions that make no memory.
-/
import Derived.Test.YtnbhpojcckhlmaaDoorA
namespace Go.Proofs.YtnbhpojcckhlmaaDoor
open Go.RowKit
set_option linter.unusedVariables false
set_option linter.unusedSimpArgs false

/-- The byte at k, or 0. -/
def bt (s : ByteArray) (k : Nat) : Int := if h : k < s.size then ((s[k]'h).toNat : Int) else 0
theorem bt_eq {s : ByteArray} {k : Nat} (h : k < s.size) : ((s[k]'h).toNat : Int) = bt s k := by unfold bt; rw [dif_pos h]
theorem bt_range (s : ByteArray) (k : Nat) : 0 ≤ bt s k ∧ bt s k ≤ 255 := by
  unfold bt
  split
  · rename_i h
    have := UInt8.toNat_lt (s[k]'h)
    omega
  · omega
theorem bt_lt {s : ByteArray} {k : Nat} (h : bt s k ≠ 0) : k < s.size := by
  unfold bt at h
  split at h
  · assumption
  · exact (h rfl).elim
theorem byteAt_any (s : ByteArray) (k : Nat) (w : World) : Calls Tryd.prog 29 #[.string s, .int .i64 (k : Int)] w fun e w' => e = .returned (.int .u8 (bt s k)) ∧ w' = w := by
  by_cases h : k < s.size
  · have i1 : ¬ ((s.size : Int) ≤ (k : Int)) := by omega
    have i2 : (k : Int) < (s.size : Int) := by omega
    have b0 := bt_eq h
    go_enter Tryd.func29, Tryd.ntmps29
    go_wp2
    go_ret
    exact ⟨by rw [← b0]; rfl, rfl⟩
  · have i1 : (s.size : Int) ≤ (k : Int) := by omega
    have b0 : bt s k = 0 := by unfold bt; rw [dif_neg h]
    rw [b0]
    go_enter Tryd.func29, Tryd.ntmps29
    go_wp2
    go_ret
    exact ⟨rfl, rfl⟩
def isDig (c : Int) : Bool := decide (48 ≤ c) && decide (c ≤ 57)
theorem digit_any (c : Int) (w : World) : Calls Tryd.prog 13 #[.int .u8 c] w fun e w' => e = .returned (.bool (isDig c)) ∧ w' = w := by
  by_cases h1 : 48 ≤ c
  · by_cases h2 : c ≤ 57
    · rw [show isDig c = true by simp [isDig, h1, h2]]
      go_enter Tryd.func13, Tryd.ntmps13
      go_wp2
      go_ret
      exact ⟨by first | rfl | simp, rfl⟩
    · rw [show isDig c = false by simp [isDig, h1, h2]]
      go_enter Tryd.func13, Tryd.ntmps13
      go_wp2
      go_ret
      exact ⟨by first | rfl | simp, rfl⟩
  · rw [show isDig c = false by simp [isDig, h1]]
    go_enter Tryd.func13, Tryd.ntmps13
    go_wp2
    go_ret
    exact ⟨by first | rfl | simp, rfl⟩
/-- A digit to the base 16. -/
def hx (c : Int) : Option Int := if 48 ≤ c ∧ c ≤ 57 then some (c - 48) else if 97 ≤ c ∧ c ≤ 102 then some (c - 87) else if 65 ≤ c ∧ c ≤ 70 then some (c - 55) else none
set_option maxHeartbeats 1000000 in
theorem hexDigit_any (c : Int) (h0 : 0 ≤ c ∧ c ≤ 255) (w : World) : Calls Tryd.prog 67 #[.int .u8 c] w fun e w' => e = .returned (.tuple #[.int .u8 ((hx c).getD 0), .bool (hx c).isSome]) ∧ w' = w := by
  unfold hx
  have D := hide (digit_any c w)
  by_cases a : 48 ≤ c ∧ c ≤ 57
  · have hd : isDig c = true := by simp [isDig, a.1, a.2]
    have e1 : (c - 48) % 256 = c - 48 := by omega
    rw [if_pos a]
    replace a := hide a
    go_enter Tryd.func67, Tryd.ntmps67
    go_wp2_with fail
    refine D.out.mono ?_
    rintro e w' ⟨rfl, rfl⟩
    rw [hd]
    go_wp2_with fail
    go_ret2
    exact ⟨by simp [e1], rfl⟩
  · have hd : isDig c = false := by
      simp only [isDig]; rw [← Bool.decide_and]; exact decide_eq_false a
    rw [if_neg a]
    replace a := hide a
    by_cases b : 97 ≤ c ∧ c ≤ 102
    · rw [if_pos b]
      obtain ⟨b1, b2⟩ := b
      have e1 : (c - 97) % 256 = c - 97 := by omega
      have e2 : (c - 97 + 10) % 256 = c - 87 := by omega
      go_enter Tryd.func67, Tryd.ntmps67
      go_wp2_with fail
      refine D.out.mono ?_
      rintro e w' ⟨rfl, rfl⟩
      rw [hd]
      go_wp2_with fail
      go_ret2
      exact ⟨by simp [e1, e2]; omega, rfl⟩
    · rw [if_neg b]
      by_cases d : 65 ≤ c ∧ c ≤ 70
      · rw [if_pos d]
        obtain ⟨d1, d2⟩ := d
        have b1 : ¬ 97 ≤ c := by omega
        replace b := hide b
        have e1 : (c - 65) % 256 = c - 65 := by omega
        have e2 : (c - 65 + 10) % 256 = c - 55 := by omega
        go_enter Tryd.func67, Tryd.ntmps67
        go_wp2_with fail
        refine D.out.mono ?_
        rintro e w' ⟨rfl, rfl⟩
        rw [hd]
        go_wp2_with fail
        go_ret2
        exact ⟨by simp [e1, e2]; omega, rfl⟩
      · rw [if_neg d]
        go_enter Tryd.func67, Tryd.ntmps67
        go_wp2_with fail
        refine D.out.mono ?_
        rintro e w' ⟨rfl, rfl⟩
        rw [hd]
        by_cases b1 : 97 ≤ c
        · have b2 : ¬ c ≤ 102 := by omega
          have d1 : 65 ≤ c := by omega
          have d2 : ¬ c ≤ 70 := by omega
          replace b := hide b
          replace d := hide d
          go_wp2_with fail
          go_ret2
          exact ⟨rfl, rfl⟩
        · by_cases d1 : 65 ≤ c
          · have d2 : ¬ c ≤ 70 := by omega
            replace b := hide b
            replace d := hide d
            go_wp2_with fail
            go_ret2
            exact ⟨rfl, rfl⟩
          · replace b := hide b
            replace d := hide d
            go_wp2_with fail
            go_ret2
            exact ⟨rfl, rfl⟩
theorem byteAt_i (s : ByteArray) (k : Nat) (w : World) {z : Int} (hz : z = (k : Int)) : Calls Tryd.prog 29 #[.string s, .int .i64 z] w fun e w' => e = .returned (.int .u8 (bt s k)) ∧ w' = w := by
  subst hz; exact byteAt_any s k w
/-- Behind ( or (?: or where it goes wrong. -/
def opR (s : ByteArray) (k : Nat) : Nat × Bool := if bt s (k + 1) = 63 then (if bt s (k + 2) = 58 then (k + 3, true) else (k + 2, false)) else (k + 1, true)
set_option maxHeartbeats 1000000 in
theorem opening_any (s : ByteArray) (k : Nat) (hk : k ≤ 100000) (w : World) : Calls Tryd.prog 28 #[.string s, .int .i64 (k : Int)] w fun e w' => e = .returned (.tuple #[.int .i64 ((opR s k).1 : Int), .bool (opR s k).2]) ∧ w' = w := by
  unfold opR
  by_cases h1 : bt s (k + 1) = 63
  · by_cases h2 : bt s (k + 2) = 58
    · rw [if_pos h1, if_pos h2]
      go_enter Tryd.func28, Tryd.ntmps28
      go_wp2_with fail
      refine (byteAt_i s (k + 1) _ (by omega)).mono ?_
      rintro e w' ⟨rfl, rfl⟩
      rw [h1]
      go_wp2_with fail
      refine (byteAt_i s (k + 2) _ (by omega)).mono ?_
      rintro e w' ⟨rfl, rfl⟩
      rw [h2]
      go_wp2_with fail
      go_ret2
      exact ⟨by simp, rfl⟩
    · have h3 : (bt s (k + 2) != 58) = true := by simpa using h2
      rw [if_pos h1, if_neg h2]
      replace h2 := hide h2
      go_enter Tryd.func28, Tryd.ntmps28
      go_wp2_with fail
      refine (byteAt_i s (k + 1) _ (by omega)).mono ?_
      rintro e w' ⟨rfl, rfl⟩
      rw [h1]
      go_wp2_with fail
      refine (byteAt_i s (k + 2) _ (by omega)).mono ?_
      rintro e w' ⟨rfl, rfl⟩
      go_wp2_with fail
      go_ret2
      exact ⟨by simp, rfl⟩
  · have h3 : (bt s (k + 1) != 63) = true := by simpa using h1
    rw [if_neg h1]
    replace h1 := hide h1
    go_enter Tryd.func28, Tryd.ntmps28
    go_wp2_with fail
    refine (byteAt_i s (k + 1) _ (by omega)).mono ?_
    rintro e w' ⟨rfl, rfl⟩
    go_wp2_with fail
    go_ret2
    exact ⟨by simp, rfl⟩
/-- A number of one digit or two: it, the place behind it, whether there is one. -/
def numR (s : ByteArray) (k : Nat) : Int × Nat × Bool :=
  if isDig (bt s k) = true then (if 48 < bt s k ∧ isDig (bt s (k + 1)) = true then ((bt s k - 48) * 10 + (bt s (k + 1) - 48), k + 2, true) else (bt s k - 48, k + 1, true)) else (0, k, false)
theorem dig_range {c : Int} (h : isDig c = true) : 48 ≤ c ∧ c ≤ 57 := by simpa [isDig] using h
set_option maxHeartbeats 1000000 in
theorem number_any (s : ByteArray) (k : Nat) (hk : k ≤ 100000) (w : World) {z : Int} (hz : z = (k : Int)) : Calls Tryd.prog 61 #[.string s, .int .i64 z] w fun e w' => e = .returned (.tuple #[.int .i64 (numR s k).1, .int .i64 ((numR s k).2.1 : Int), .bool (numR s k).2.2]) ∧ w' = w := by
  subst hz
  unfold numR
  obtain ⟨c, hc⟩ : ∃ c, bt s k = c := ⟨_, rfl⟩
  obtain ⟨d, hd⟩ : ∃ d, bt s (k + 1) = d := ⟨_, rfl⟩
  rw [hc, hd]
  replace hc := hide hc
  replace hd := hide hd
  cases h1 : isDig c with
  | false =>
    rw [if_neg (by simp)]
    go_enter Tryd.func61, Tryd.ntmps61
    go_wp2_with fail
    refine (byteAt_i s k _ rfl).mono ?_
    rintro e w' ⟨rfl, rfl⟩
    rw [hc.out]
    go_wp2_with fail
    refine (digit_any c _).mono ?_
    rintro e w' ⟨rfl, rfl⟩
    rw [h1]
    go_wp2_with fail
    go_ret3
    exact ⟨rfl, rfl⟩
  | true =>
    rw [if_pos rfl]
    obtain ⟨r1, r2⟩ := dig_range h1
    have e1 : (c - 48) % 256 = c - 48 := by omega
    by_cases h2 : 48 < c
    · have g1 : 0 < c - 48 := by omega
      cases h3 : isDig d with
      | true =>
        obtain ⟨q1, q2⟩ := dig_range h3
        have e2 : (d - 48) % 256 = d - 48 := by omega
        rw [if_pos ⟨h2, rfl⟩]
        go_enter Tryd.func61, Tryd.ntmps61
        go_wp2_with fail
        refine (byteAt_i s k _ rfl).mono ?_
        rintro e w' ⟨rfl, rfl⟩
        rw [hc.out]
        go_wp2_with fail
        refine (digit_any c _).mono ?_
        rintro e w' ⟨rfl, rfl⟩
        rw [h1]
        go_wp2_with fail
        refine (byteAt_i s (k + 1) _ (by omega)).mono ?_
        rintro e w' ⟨rfl, rfl⟩
        rw [hd.out]
        go_wp2_with fail
        refine (digit_any d _).mono ?_
        rintro e w' ⟨rfl, rfl⟩
        rw [h3]
        go_wp2_with fail
        go_ret3
        exact ⟨by simp [e1, e2]; omega, rfl⟩
      | false =>
        rw [if_neg (by simp)]
        go_enter Tryd.func61, Tryd.ntmps61
        go_wp2_with fail
        refine (byteAt_i s k _ rfl).mono ?_
        rintro e w' ⟨rfl, rfl⟩
        rw [hc.out]
        go_wp2_with fail
        refine (digit_any c _).mono ?_
        rintro e w' ⟨rfl, rfl⟩
        rw [h1]
        go_wp2_with fail
        refine (byteAt_i s (k + 1) _ (by omega)).mono ?_
        rintro e w' ⟨rfl, rfl⟩
        rw [hd.out]
        go_wp2_with fail
        refine (digit_any d _).mono ?_
        rintro e w' ⟨rfl, rfl⟩
        rw [h3]
        go_wp2_with fail
        go_ret3
        exact ⟨by simp [e1], rfl⟩
    · have g1 : ¬ 0 < c - 48 := by omega
      rw [if_neg (fun h => h2 h.1)]
      go_enter Tryd.func61, Tryd.ntmps61
      go_wp2_with fail
      refine (byteAt_i s k _ rfl).mono ?_
      rintro e w' ⟨rfl, rfl⟩
      rw [hc.out]
      go_wp2_with fail
      refine (digit_any c _).mono ?_
      rintro e w' ⟨rfl, rfl⟩
      rw [h1]
      go_wp2_with fail
      refine (byteAt_i s (k + 1) _ (by omega)).mono ?_
      rintro e w' ⟨rfl, rfl⟩
      rw [hd.out]
      go_wp2_with fail
      go_ret3
      exact ⟨by simp [e1], rfl⟩
def arT (m n : Int) : Bool := decide (0 ≤ m) && decide (m ≤ 64) && (decide (n = -1) || decide (m ≤ n) && decide (n ≤ 64))
set_option maxHeartbeats 1000000 in
theorem areTimes_any (m n : Int) (w : World) : Calls Tryd.prog 42 #[.int .i64 m, .int .i64 n] w fun e w' => e = .returned (.bool (arT m n)) ∧ w' = w := by
  unfold arT
  by_cases h1 : 0 ≤ m <;> by_cases h2 : m ≤ 64 <;> by_cases h3 : n = -1 <;> by_cases h4 : m ≤ n <;> by_cases h5 : n ≤ 64 <;>
    (simp only [h1, h2, h4, h5, decide_true, decide_false, Bool.true_and, Bool.and_true, Bool.false_and, Bool.and_false, Bool.false_or, Bool.true_or, Bool.or_true, Bool.or_false]
     have h3' := h3
     first | (have k : (n == -1) = true := by simpa using h3) | (have k : (n == -1) = false := by simpa using h3)
     replace h3' := hide h3'
     clear h3
     go_enter Tryd.func42, Tryd.ntmps42
     go_wp2
     go_ret
     exact ⟨by have := h3'.out; simp [this], rfl⟩)
end Go.Proofs.YtnbhpojcckhlmaaDoor
