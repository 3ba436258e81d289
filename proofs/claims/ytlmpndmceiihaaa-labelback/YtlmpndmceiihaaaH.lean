/-
  isName.
-/
import Derived.Test.YtlmpndmceiihaaaG
namespace Go.Proofs.Ytlmpndmceiihaaa
open Go.RowKit
set_option linter.unusedVariables false
set_option linter.unusedSimpArgs false

/-- The byte k of s. -/
def byt (s : Str) (k : Nat) : Int := if h : k < ByteArray.size s then ((s[k]'h).toNat : Int) else 0
theorem byt_eq {s : Str} {k : Nat} (h : k < ByteArray.size s) : ((s[k]'h).toNat : Int) = byt s k := by unfold byt; rw [dif_pos h]
def okc (c : Int) : Bool := isDig c || isLet c || decide (c = 95)
def nameB (s : Str) : Bool := decide (0 < ByteArray.size s) && decide (ByteArray.size s ≤ 64) && !isDig (byt s 0) && (List.range (ByteArray.size s)).all fun k => okc (byt s k)

set_option maxHeartbeats 2000000 in
theorem name_any (s : Str) (w : World) : Calls Try.prog 23 #[.string s] w fun e w' => e = .returned (.bool (nameB s)) ∧ w' = w := by
  by_cases h1 : 0 < ByteArray.size s
  · have i1 : (((ByteArray.size s : Nat) : Int) == 0) = false := beq_eq_false_iff_ne.2 (by omega)
    by_cases h2 : ByteArray.size s ≤ 64
    · have i2 : ¬ ((64 : Int) < (ByteArray.size s : Int)) := by omega
      have b0 := byt_eq h1
      cases hd : isDig (byt s 0) with
      | true =>
        rw [show nameB s = false by simp [nameB, hd]]
        go_enter Try.func23, Try.ntmps23
        go_wp2_with (go_at_call 40; refine (digit_any _ _).mono ?_; rintro e w' ⟨rfl, hw⟩; replace hw := hw.symm; subst hw; (try rw [b0]); (try rw [hd]))
        go_ret
        exact ⟨rfl, rfl⟩
      | false =>
        go_enter Try.func23, Try.ntmps23
        go_wp2_with (go_at_call 40; refine (digit_any _ _).mono ?_; rintro e w' ⟨rfl, hw⟩; replace hw := hw.symm; subst hw; (try rw [b0]); (try rw [hd]))
        clear b0
        go_loopw [19] (fun i wr => ∃ k : Nat, k ≤ ByteArray.size s ∧ i = .int .i64 k ∧ wr = w ∧ Hid (∀ j, j < k → okc (byt s j) = true)) (fun i _ => ByteArray.size s - (intOf i).toNat)
        case atStart => exact ⟨0, Nat.zero_le _, rfl, rfl, (fun j hj => by omega : ∀ j, j < 0 → okc (byt s j) = true)⟩
        case round =>
          obtain ⟨k, hk, rfl, rfl, ht⟩ := hrel
          by_cases hkl : k < ByteArray.size s
          · have j1 : (k : Int) < (ByteArray.size s : Int) := by omega
            have bk := byt_eq hkl
            have ok (h : okc (byt s k) = true) : Hid (∀ j, j < k + 1 → okc (byt s j) = true) := fun j hj => by
              rcases Nat.lt_succ_iff_lt_or_eq.1 hj with h' | h'
              · exact ht.out j h'
              · rw [h']; exact h
            cases ha : isDig (byt s k) with
            | true =>
              have ht2 := ok (by simp [okc, ha])
              clear ok
              go_wp2_with (first | (go_at_call 40; refine (digit_any _ _).mono ?_; rintro e w' ⟨rfl, hw⟩; replace hw := hw.symm; subst hw; (try rw [bk]); (try rw [ha])) | (go_at_call 41; refine (letter_any _ _).mono ?_; rintro e w' ⟨rfl, hw⟩; replace hw := hw.symm; subst hw; (try rw [bk]); (try rw [hb])))
              go_roundw
              case rel => exact ⟨k + 1, by omega, by go_num, (by first | trivial | rfl), ht2⟩
              case measure => simp [intOf]; omega
            | false =>
              cases hb : isLet (byt s k) with
              | true =>
                have ht2 := ok (by simp [okc, hb])
                clear ok
                go_wp2_with (first | (go_at_call 40; refine (digit_any _ _).mono ?_; rintro e w' ⟨rfl, hw⟩; replace hw := hw.symm; subst hw; (try rw [bk]); (try rw [ha])) | (go_at_call 41; refine (letter_any _ _).mono ?_; rintro e w' ⟨rfl, hw⟩; replace hw := hw.symm; subst hw; (try rw [bk]); (try rw [hb])))
                go_roundw
                case rel => exact ⟨k + 1, by omega, by go_num, (by first | trivial | rfl), ht2⟩
                case measure => simp [intOf]; omega
              | false =>
                by_cases hc : byt s k = 95
                · have ht2 := ok (by simp [okc, hc])
                  have hc2 : (((s[k]'hkl).toNat : Int) != 95) = false := by rw [bk, hc]; rfl
                  clear ok hc
                  go_wp2_with (first | (go_at_call 40; refine (digit_any _ _).mono ?_; rintro e w' ⟨rfl, hw⟩; replace hw := hw.symm; subst hw; (try rw [bk]); (try rw [ha])) | (go_at_call 41; refine (letter_any _ _).mono ?_; rintro e w' ⟨rfl, hw⟩; replace hw := hw.symm; subst hw; (try rw [bk]); (try rw [hb])))
                  go_roundw
                  case rel => exact ⟨k + 1, by omega, by go_num, (by first | trivial | rfl), ht2⟩
                  case measure => simp [intOf]; omega
                · have hc2 : (((s[k]'hkl).toNat : Int) != 95) = true := by rw [bk]; simpa using hc
                  have fin : Hid (nameB s = false) := by
                    show nameB s = false
                    unfold nameB
                    rw [Bool.and_eq_false_iff]
                    exact .inr (by
                      rw [List.all_eq_false]
                      exact ⟨k, List.mem_range.2 hkl, by simp [okc, ha, hb, hc]⟩)
                  clear ok hc
                  go_wp2_with (first | (go_at_call 40; refine (digit_any _ _).mono ?_; rintro e w' ⟨rfl, hw⟩; replace hw := hw.symm; subst hw; (try rw [bk]); (try rw [ha])) | (go_at_call 41; refine (letter_any _ _).mono ?_; rintro e w' ⟨rfl, hw⟩; replace hw := hw.symm; subst hw; (try rw [bk]); (try rw [hb])))
                  go_ret
                  exact ⟨by rw [fin.out]; rfl, rfl⟩
          · obtain rfl : k = ByteArray.size s := by omega
            have fin : Hid (nameB s = true) := by
              show nameB s = true
              unfold nameB
              simp only [h1, h2, hd, Bool.and_eq_true, decide_true, Bool.not_false, and_self, true_and, List.all_eq_true, List.mem_range]
              exact ht.out
            go_wp2
            go_ret
            exact ⟨by rw [fin.out]; rfl, rfl⟩
    · have i2 : (64 : Int) < (ByteArray.size s : Int) := by omega
      rw [show nameB s = false by simp [nameB, h2]]
      go_enter Try.func23, Try.ntmps23
      go_wp2
      go_ret
      exact ⟨rfl, rfl⟩
  · have i1 : (((ByteArray.size s : Nat) : Int) == 0) = true := beq_iff_eq.2 (by omega)
    rw [show nameB s = false by simp [nameB, h1]]
    go_enter Try.func23, Try.ntmps23
    go_wp2
    go_ret
    exact ⟨rfl, rfl⟩
end Go.Proofs.Ytlmpndmceiihaaa
