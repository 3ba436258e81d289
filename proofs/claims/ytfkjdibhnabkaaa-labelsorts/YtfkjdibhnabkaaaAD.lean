/-
  The walk of the reference's Name.
-/
import Derived.Test.YtfkjdibhnabkaaaAC
namespace Go.Proofs.Ytfkjdibhnabkaaa
open Go.RowKit Go.Shelf Go.Lib
set_option linter.unusedVariables false
set_option linter.unusedSimpArgs false

set_option maxHeartbeats 8000000 in
theorem rname_any (s : Str) (w : World) : Calls Try.prog 28 #[.string s] w fun e w' => e = .returned (.bool (nameB s)) ∧ w' = w := by
  by_cases h1 : 0 < ByteArray.size s
  · have i1 : (ByteArray.toList s).isEmpty = false := by rw [isEmpty_size, decide_eq_false_iff_not]; omega
    by_cases h2 : ByteArray.size s ≤ 64
    · have i2 : ¬ ((64 : Int) < (ByteArray.size s : Int)) := by omega
      go_enter Try.func28, Try.ntmps28
      go_wp2_with fail
      go_loopw [3] (fun i wr => ∃ k : Nat, k ≤ ByteArray.size s ∧ i = .int .i64 k ∧ wr = w ∧ Hid ((∀ j, j < k → okc (byt s j) = true) ∧ (0 < k → isDig (byt s 0) = false))) (fun i _ => ByteArray.size s - (intOf i).toNat)
      case atStart => exact ⟨0, Nat.zero_le _, rfl, rfl, ⟨fun j hj => by omega, fun h => by omega⟩⟩
      case round =>
        obtain ⟨k, hk, rfl, rfl, ht⟩ := hrel
        by_cases hkl : k < ByteArray.size s
        · have j1 : (k : Int) < (ByteArray.size s : Int) := by omega
          have bk := byt_eq hkl
          have ok (h : okc (byt s k) = true) (h' : k = 0 → isDig (byt s k) = false) : Hid ((∀ j, j < k + 1 → okc (byt s j) = true) ∧ (0 < k + 1 → isDig (byt s 0) = false)) := ⟨fun j hj => by
            rcases Nat.lt_succ_iff_lt_or_eq.1 hj with h9 | h9
            · exact ht.out.1 j h9
            · rw [h9]; exact h, fun _ => by
            rcases Nat.eq_zero_or_pos k with h9 | h9
            · have := h' h9; rwa [h9] at this
            · exact ht.out.2 h9⟩
          have no (h : okc (byt s k) = false) : Hid (nameB s = false) := nameB_not hkl h
          have nod (h : k = 0) (h' : isDig (byt s k) = true) : Hid (nameB s = false) := nameB_dig (by rwa [h] at h')
          have bb : 0 ≤ byt s k ∧ byt s k ≤ 255 := by rw [← bk]; have := (s[k]'hkl).toNat_lt; omega
          generalize byt s k = c at *
          replace ht := hide ht.out
          rcases (show (c < 48) ∨ (48 ≤ c ∧ c ≤ 57) ∨ (57 < c ∧ c < 65) ∨ (65 ≤ c ∧ c ≤ 90) ∨ (90 < c ∧ c < 95) ∨ (c = 95) ∨ (95 < c ∧ c < 97) ∨ (97 ≤ c ∧ c ≤ 122) ∨ (122 < c) by omega) with hi | hi | hi | hi | hi | hi | hi | hi | hi
          · have q0 : ¬ 97 ≤ c := by omega
            have q1 : c ≤ 122 := by omega
            have q2 : ¬ 65 ≤ c := by omega
            have q3 : c ≤ 90 := by omega
            have q4 : c < 48 := by omega
            have q5 : ¬ 57 < c := by omega
            have fin := no (by simp [okc, isDig, isLet]; omega)
            have hq2 : (c == 95) = false := by rw [beq_eq_false_iff_ne]; omega
            clear ok no nod ht
            by_cases hk0 : k = 0
            · subst hk0
              simp only [show ((0 : Nat) : Int) = 0 from rfl] at *
              go_wp2_with fail
              go_ret
              exact ⟨by rw [fin.out]; rfl, rfl⟩
            · have hk1 : ((k : Int) == 0) = false := by rw [beq_eq_false_iff_ne]; omega
              go_wp2_with fail
              go_ret
              exact ⟨by rw [fin.out]; rfl, rfl⟩
          · have q0 : ¬ 97 ≤ c := by omega
            have q1 : c ≤ 122 := by omega
            have q2 : ¬ 65 ≤ c := by omega
            have q3 : c ≤ 90 := by omega
            have q4 : ¬ c < 48 := by omega
            have q5 : ¬ 57 < c := by omega
            have hq2 : (c == 95) = false := by rw [beq_eq_false_iff_ne]; omega
            by_cases hk0 : k = 0
            · have fin := nod hk0 (by simp [isDig]; omega)
              clear ok no nod ht
              subst hk0
              simp only [show ((0 : Nat) : Int) = 0 from rfl] at *
              go_wp2_with fail
              go_ret
              exact ⟨by rw [fin.out]; rfl, rfl⟩
            · have ht2 := ok (by simp [okc, isDig, isLet]; omega) (fun h => absurd h hk0)
              clear ok no nod ht
              have hk1 : ((k : Int) == 0) = false := by rw [beq_eq_false_iff_ne]; omega
              go_wp2_with fail
              go_roundw
              case rel => exact ⟨k + 1, by omega, by go_num, (by first | trivial | rfl), ht2⟩
              case measure => simp [intOf]; omega
          · have q0 : ¬ 97 ≤ c := by omega
            have q1 : c ≤ 122 := by omega
            have q2 : ¬ 65 ≤ c := by omega
            have q3 : c ≤ 90 := by omega
            have q4 : ¬ c < 48 := by omega
            have q5 : 57 < c := by omega
            have fin := no (by simp [okc, isDig, isLet]; omega)
            have hq2 : (c == 95) = false := by rw [beq_eq_false_iff_ne]; omega
            clear ok no nod ht
            by_cases hk0 : k = 0
            · subst hk0
              simp only [show ((0 : Nat) : Int) = 0 from rfl] at *
              go_wp2_with fail
              go_ret
              exact ⟨by rw [fin.out]; rfl, rfl⟩
            · have hk1 : ((k : Int) == 0) = false := by rw [beq_eq_false_iff_ne]; omega
              go_wp2_with fail
              go_ret
              exact ⟨by rw [fin.out]; rfl, rfl⟩
          · have q0 : ¬ 97 ≤ c := by omega
            have q1 : c ≤ 122 := by omega
            have q2 : 65 ≤ c := by omega
            have q3 : c ≤ 90 := by omega
            have q4 : ¬ c < 48 := by omega
            have q5 : 57 < c := by omega
            have ht2 := ok (by simp [okc, isDig, isLet]; omega) (fun _ => by simp [isDig]; omega)
            have hq : (c == 95) = decide (c = 95) := by rw [Bool.eq_iff_iff, beq_iff_eq, decide_eq_true_iff]
            clear ok no nod ht
            have hq2 : (c == 95) = false := by rw [hq]; simp; omega
            go_wp2_with fail
            go_roundw
            case rel => exact ⟨k + 1, by omega, by go_num, (by first | trivial | rfl), ht2⟩
            case measure => simp [intOf]; omega
          · have q0 : ¬ 97 ≤ c := by omega
            have q1 : c ≤ 122 := by omega
            have q2 : 65 ≤ c := by omega
            have q3 : ¬ c ≤ 90 := by omega
            have q4 : ¬ c < 48 := by omega
            have q5 : 57 < c := by omega
            have fin := no (by simp [okc, isDig, isLet]; omega)
            have hq2 : (c == 95) = false := by rw [beq_eq_false_iff_ne]; omega
            clear ok no nod ht
            by_cases hk0 : k = 0
            · subst hk0
              simp only [show ((0 : Nat) : Int) = 0 from rfl] at *
              go_wp2_with fail
              go_ret
              exact ⟨by rw [fin.out]; rfl, rfl⟩
            · have hk1 : ((k : Int) == 0) = false := by rw [beq_eq_false_iff_ne]; omega
              go_wp2_with fail
              go_ret
              exact ⟨by rw [fin.out]; rfl, rfl⟩
          · have ht2 := ok (by simp [okc, isDig, isLet]; omega) (fun _ => by simp [isDig]; omega)
            have hq : (c == 95) = decide (c = 95) := by rw [Bool.eq_iff_iff, beq_iff_eq, decide_eq_true_iff]
            clear ok no nod ht
            subst hi
            go_wp2_with fail
            go_roundw
            case rel => exact ⟨k + 1, by omega, by go_num, (by first | trivial | rfl), ht2⟩
            case measure => simp [intOf]; omega
          · have q0 : ¬ 97 ≤ c := by omega
            have q1 : c ≤ 122 := by omega
            have q2 : 65 ≤ c := by omega
            have q3 : ¬ c ≤ 90 := by omega
            have q4 : ¬ c < 48 := by omega
            have q5 : 57 < c := by omega
            have fin := no (by simp [okc, isDig, isLet]; omega)
            have hq2 : (c == 95) = false := by rw [beq_eq_false_iff_ne]; omega
            clear ok no nod ht
            by_cases hk0 : k = 0
            · subst hk0
              simp only [show ((0 : Nat) : Int) = 0 from rfl] at *
              go_wp2_with fail
              go_ret
              exact ⟨by rw [fin.out]; rfl, rfl⟩
            · have hk1 : ((k : Int) == 0) = false := by rw [beq_eq_false_iff_ne]; omega
              go_wp2_with fail
              go_ret
              exact ⟨by rw [fin.out]; rfl, rfl⟩
          · have q0 : 97 ≤ c := by omega
            have q1 : c ≤ 122 := by omega
            have q2 : 65 ≤ c := by omega
            have q3 : ¬ c ≤ 90 := by omega
            have q4 : ¬ c < 48 := by omega
            have q5 : 57 < c := by omega
            have ht2 := ok (by simp [okc, isDig, isLet]; omega) (fun _ => by simp [isDig]; omega)
            have hq : (c == 95) = decide (c = 95) := by rw [Bool.eq_iff_iff, beq_iff_eq, decide_eq_true_iff]
            clear ok no nod ht
            have hq2 : (c == 95) = false := by rw [hq]; simp; omega
            go_wp2_with fail
            go_roundw
            case rel => exact ⟨k + 1, by omega, by go_num, (by first | trivial | rfl), ht2⟩
            case measure => simp [intOf]; omega
          · have q0 : 97 ≤ c := by omega
            have q1 : ¬ c ≤ 122 := by omega
            have q2 : 65 ≤ c := by omega
            have q3 : ¬ c ≤ 90 := by omega
            have q4 : ¬ c < 48 := by omega
            have q5 : 57 < c := by omega
            have fin := no (by simp [okc, isDig, isLet]; omega)
            have hq2 : (c == 95) = false := by rw [beq_eq_false_iff_ne]; omega
            clear ok no nod ht
            by_cases hk0 : k = 0
            · subst hk0
              simp only [show ((0 : Nat) : Int) = 0 from rfl] at *
              go_wp2_with fail
              go_ret
              exact ⟨by rw [fin.out]; rfl, rfl⟩
            · have hk1 : ((k : Int) == 0) = false := by rw [beq_eq_false_iff_ne]; omega
              go_wp2_with fail
              go_ret
              exact ⟨by rw [fin.out]; rfl, rfl⟩
        · obtain rfl : ByteArray.size s = k := by omega
          have fin : Hid (nameB s = true) := by
            show nameB s = true
            unfold nameB
            simp only [h1, h2, ht.out.2 h1, Bool.and_eq_true, decide_true, Bool.not_false, and_self, true_and, List.all_eq_true, List.mem_range]
            exact ht.out.1
          go_wp2_with fail
          go_ret
          exact ⟨by rw [fin.out]; rfl, rfl⟩
    · have i2 : (64 : Int) < (ByteArray.size s : Int) := by omega
      rw [show nameB s = false by simp [nameB, h2]]
      go_enter Try.func28, Try.ntmps28
      go_wp2_with fail
      go_ret
      exact ⟨rfl, rfl⟩
  · have i1 : (ByteArray.toList s).isEmpty = true := by rw [isEmpty_size, decide_eq_true_iff]; omega
    rw [show nameB s = false by simp [nameB, h1]]
    go_enter Try.func28, Try.ntmps28
    go_wp2_with fail
    go_ret
    exact ⟨rfl, rfl⟩
end Go.Proofs.Ytfkjdibhnabkaaa
