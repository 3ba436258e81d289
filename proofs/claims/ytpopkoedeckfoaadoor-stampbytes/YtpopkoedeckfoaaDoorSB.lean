/-
  The small functions of stamp: isCount, isTime, mayBe, mayFollow, fold, unfold; the reference's right, class.
-/
import Derived.Test.YtpopkoedeckfoaaDoorD
import Derived.Test.YtpopkoedeckfoaaDoorSA
namespace Go.Proofs.YtpopkoedeckfoaaDoor
open Go.RowKit
set_option linter.unusedVariables false
set_option linter.unusedSimpArgs false

def isCnt (n : Int) : Bool := decide (0 ≤ n ∧ n ≤ 4096)
def isTim (t : Int) : Bool := decide (0 ≤ t ∧ t ≤ 35184372088832)
def okSI (n l d : Int) : Bool := isCnt n && isTim l && isTim d
def okTI (n l t : Int) : Bool := isTim t && (decide (n = 0) || decide (l < t))

set_option maxHeartbeats 400000 in
theorem count_any (n : Int) (w : World) : Calls Tryd.prog 47 #[.int .i64 n] w fun e w' => e = .returned (.bool (isCnt n)) ∧ w' = w := by
  unfold isCnt
  by_cases h0 : 0 ≤ n
  · by_cases h1 : n ≤ 4096
    · go_enter Tryd.func47, Tryd.ntmps47
      go_wp2
      go_ret
      exact ⟨ret_bool (by simp; omega), rfl⟩
    · go_enter Tryd.func47, Tryd.ntmps47
      go_wp2
      go_ret
      exact ⟨ret_bool (by simp; omega), rfl⟩
  · go_enter Tryd.func47, Tryd.ntmps47
    go_wp2
    go_ret
    exact ⟨ret_bool (by simp; omega), rfl⟩
set_option maxHeartbeats 400000 in
theorem time_any (n : Int) (w : World) : Calls Tryd.prog 49 #[.int .i64 n] w fun e w' => e = .returned (.bool (isTim n)) ∧ w' = w := by
  unfold isTim
  by_cases h0 : 0 ≤ n
  · by_cases h1 : n ≤ 35184372088832
    · go_enter Tryd.func49, Tryd.ntmps49
      go_wp2
      go_ret
      exact ⟨ret_bool (by simp; omega), rfl⟩
    · go_enter Tryd.func49, Tryd.ntmps49
      go_wp2
      go_ret
      exact ⟨ret_bool (by simp; omega), rfl⟩
  · go_enter Tryd.func49, Tryd.ntmps49
    go_wp2
    go_ret
    exact ⟨ret_bool (by simp; omega), rfl⟩

set_option maxHeartbeats 1000000 in
theorem mayBe_any (n l d : Int) (w : World) : Calls Tryd.prog 38 #[.agg #[.int .i64 n, .int .i64 l, .int .i64 d]] w fun e w' => e = .returned (.bool (okSI n l d)) ∧ Below w.heap.size w w' := by
  have B0 : Hid (Below w.heap.size w (w.alloc (.cells #[.int .i64 n, .int .i64 l, .int .i64 d] 23))) := (Below.refl _ w).alloc (Nat.le_refl _) _
  have C := hide (count_any n)
  have L := hide (time_any l)
  have D := hide (time_any d)
  unfold okSI
  cases h0 : isCnt n <;> rw [h0] at C
  · go_enter Tryd.func38, Tryd.ntmps38
    go_wp2_with (go_at_call 47; refine (C.out _).mono ?_; rintro e wq ⟨rfl, rfl⟩)
    go_ret
    exact ⟨ret_bool (by simp), B0.out⟩
  · cases h1 : isTim l <;> rw [h1] at L
    · go_enter Tryd.func38, Tryd.ntmps38
      go_wp2_with (first | (go_at_call 47; refine (C.out _).mono ?_; rintro e wq ⟨rfl, rfl⟩) | (go_at_call 49; refine (L.out _).mono ?_; rintro e wq ⟨rfl, rfl⟩))
      go_ret
      exact ⟨ret_bool (by simp), B0.out⟩
    · go_enter Tryd.func38, Tryd.ntmps38
      go_wp2_with (first | (go_at_call 47; refine (C.out _).mono ?_; rintro e wq ⟨rfl, rfl⟩) | (go_at_call 49; refine (L.out _).mono ?_; rintro e wq ⟨rfl, rfl⟩) | (go_at_call 49; refine (D.out _).mono ?_; rintro e wq ⟨rfl, rfl⟩))
      go_ret
      exact ⟨ret_bool (by simp), B0.out⟩

set_option maxHeartbeats 1000000 in
theorem mayFollow_any (n l d t : Int) (w : World) : Calls Tryd.prog 39 #[.agg #[.int .i64 n, .int .i64 l, .int .i64 d], .int .i64 t] w fun e w' => e = .returned (.bool (okTI n l t)) ∧ Below w.heap.size w w' := by
  have B0 : Hid (Below w.heap.size w (w.alloc (.cells #[.int .i64 n, .int .i64 l, .int .i64 d] 23))) := (Below.refl _ w).alloc (Nat.le_refl _) _
  have C := hide (time_any t)
  unfold okTI
  cases h0 : isTim t <;> rw [h0] at C
  · go_enter Tryd.func39, Tryd.ntmps39
    go_wp2_with (go_at_call 49; refine (C.out _).mono ?_; rintro e wq ⟨rfl, rfl⟩)
    go_ret
    exact ⟨ret_bool (by simp), B0.out⟩
  · by_cases h1 : n = 0
    · subst h1
      go_enter Tryd.func39, Tryd.ntmps39
      go_wp2_with (go_at_call 49; refine (C.out _).mono ?_; rintro e wq ⟨rfl, rfl⟩)
      go_ret
      exact ⟨ret_bool (by simp), B0.out⟩
    · by_cases h2 : l < t
      · go_enter Tryd.func39, Tryd.ntmps39
        go_wp2_with (go_at_call 49; refine (C.out _).mono ?_; rintro e wq ⟨rfl, rfl⟩)
        go_ret
        exact ⟨ret_bool (by simp [h1, h2]), B0.out⟩
      · go_enter Tryd.func39, Tryd.ntmps39
        go_wp2_with (go_at_call 49; refine (C.out _).mono ?_; rintro e wq ⟨rfl, rfl⟩)
        go_ret
        exact ⟨ret_bool (by simp [h1, h2]), B0.out⟩

set_option maxHeartbeats 1000000 in
theorem right_any (n l d : Int) (w : World) : Calls Tryd.prog 42 #[.agg #[.int .i64 n, .int .i64 l, .int .i64 d]] w fun e w' => e = .returned (.bool (okSI n l d)) ∧ Below w.heap.size w w' := by
  have B0 : Hid (Below w.heap.size w (w.alloc (.cells #[.int .i64 n, .int .i64 l, .int .i64 d] 36))) := (Below.refl _ w).alloc (Nat.le_refl _) _
  unfold okSI isCnt isTim
  by_cases h1 : 0 ≤ n
  · by_cases h2 : n ≤ 4096
    · by_cases h3 : 0 ≤ d
      · by_cases h4 : d ≤ 35184372088832
        · by_cases h5 : 0 ≤ l
          · by_cases h6 : l ≤ 35184372088832
            · go_enter Tryd.func42, Tryd.ntmps42
              go_wp2
              go_ret
              exact ⟨ret_bool (by simp; omega), B0.out⟩
            · go_enter Tryd.func42, Tryd.ntmps42
              go_wp2
              go_ret
              exact ⟨ret_bool (by simp; omega), B0.out⟩
          · go_enter Tryd.func42, Tryd.ntmps42
            go_wp2
            go_ret
            exact ⟨ret_bool (by simp; omega), B0.out⟩
        · go_enter Tryd.func42, Tryd.ntmps42
          go_wp2
          go_ret
          exact ⟨ret_bool (by simp; omega), B0.out⟩
      · go_enter Tryd.func42, Tryd.ntmps42
        go_wp2
        go_ret
        exact ⟨ret_bool (by simp; omega), B0.out⟩
    · go_enter Tryd.func42, Tryd.ntmps42
      go_wp2
      go_ret
      exact ⟨ret_bool (by simp; omega), B0.out⟩
  · go_enter Tryd.func42, Tryd.ntmps42
    go_wp2
    go_ret
    exact ⟨ret_bool (by simp; omega), B0.out⟩

set_option maxHeartbeats 1000000 in
theorem class_any (z : Nat) (w : World) : Calls Tryd.prog 43 #[.int .u64 (z : Int)] w fun e w' => e = .returned (.tuple #[.int .i64 ((cls z : Nat) : Int), .int .i64 ((cSize (cls z) : Nat) : Int)]) ∧ w' = w := by
  obtain ⟨y, hy⟩ : ∃ y : Int, (z : Int) = y := ⟨_, rfl⟩
  rw [hy]
  rcases (show y = 0 ∨ (¬ y = 0 ∧ y < 128) ∨ (¬ y = 0 ∧ ¬ y < 128 ∧ y < 4096) ∨ (¬ y = 0 ∧ ¬ y < 128 ∧ ¬ y < 4096 ∧ y < 1048576) ∨ (¬ y = 0 ∧ ¬ y < 128 ∧ ¬ y < 4096 ∧ ¬ y < 1048576) by omega) with h | ⟨h, h1⟩ | ⟨h, h1, h2⟩ | ⟨h, h1, h2, h3⟩ | ⟨h, h1, h2, h3⟩
  · rw [show cls z = 0 by unfold cls; rw [if_pos (by omega)]]
    clear hy
    subst h
    go_enter Tryd.func43, Tryd.ntmps43
    go_wp2
    go_ret2
    exact ⟨rfl, rfl⟩
  · rw [show cls z = 1 by unfold cls; rw [if_neg (by omega), if_pos (by omega)]]
    clear hy
    go_enter Tryd.func43, Tryd.ntmps43
    go_wp2
    go_ret2
    exact ⟨rfl, rfl⟩
  · rw [show cls z = 2 by unfold cls; rw [if_neg (by omega), if_neg (by omega), if_pos (by omega)]]
    clear hy
    go_enter Tryd.func43, Tryd.ntmps43
    go_wp2
    go_ret2
    exact ⟨rfl, rfl⟩
  · rw [show cls z = 3 by unfold cls; rw [if_neg (by omega), if_neg (by omega), if_neg (by omega), if_pos (by omega)]]
    clear hy
    go_enter Tryd.func43, Tryd.ntmps43
    go_wp2
    go_ret2
    exact ⟨rfl, rfl⟩
  · rw [show cls z = 4 by unfold cls; rw [if_neg (by omega), if_neg (by omega), if_neg (by omega), if_neg (by omega)]]
    clear hy
    go_enter Tryd.func43, Tryd.ntmps43
    go_wp2
    go_ret2
    exact ⟨rfl, rfl⟩
end Go.Proofs.YtpopkoedeckfoaaDoor
