/-
  The walks of the small functions: short, Bytes, SameBytes, the two folds.
-/
import Derived.Test.YthdgkkingajgnaaB
namespace Go.Proofs.Ythdgkkingajgnaa
open Go.RowKit
set_option linter.unusedVariables false

theorem ret_int {k : IntKind} {a b : Int} (h : a = b) : Ending.returned (.int k a) = .returned (.int k b) := by rw [h]
theorem ret_bool {a b : Bool} (h : a = b) : Ending.returned (.bool a) = .returned (.bool b) := by rw [h]
theorem zig_neg (x : Int) (h0 : -9223372036854775808 ≤ x) (hx : x < 0) : IntKind.u64.wrap (IntKind.u64.wrap (2 * IntKind.u64.wrap (wrap64 (-x))) - 1) = (zig x : Int) := by
  unfold zig
  rw [if_pos hx]
  simp only [IntKind.wrap_u64, wrap64]
  omega

set_option maxHeartbeats 400000 in
theorem fold_u (x : Int) (w : World) (h0 : 0 ≤ x) (h1 : x < 18446744073709551616) :
    Calls Try.prog 33 #[.int .u64 x] w fun e w' => e = .returned (.int .u64 x) ∧ w' = w := by
  go_enter Try.func33, Try.ntmps33
  go_wp2
  go_ret
  exact ⟨rfl, rfl⟩

set_option maxHeartbeats 400000 in
theorem fold_i (x : Int) (w : World) (h0 : -9223372036854775808 ≤ x) (h1 : x ≤ 9223372036854775807) :
    Calls Try.prog 34 #[.int .i64 x] w fun e w' => e = .returned (.int .u64 (zig x)) ∧ w' = w := by
  by_cases hx : x < 0
  · go_enter Try.func34, Try.ntmps34
    go_wp2
    go_ret
    exact ⟨ret_int (zig_neg x h0 hx), rfl⟩
  · go_enter Try.func34, Try.ntmps34
    go_wp2
    go_ret
    exact ⟨ret_int (by unfold zig; rw [if_neg (by omega)]; omega), rfl⟩

theorem toList_inj (a b : ByteArray) : a.toList = b.toList ↔ a = b := by
  constructor
  · intro h
    rw [ByteArray.toList_eq, ByteArray.toList_eq] at h
    cases a; cases b
    simpa using h
  · rintro rfl; rfl

set_option maxHeartbeats 400000 in
theorem same_any (w : World) (a a' : Option Addr) (len len' cap cap' : Nat) (l l' : List Int) (h : Has w a len cap l) (h' : Has w a' len' cap' l') :
    Calls Try.prog 11 #[.slice a len cap, .slice a' len' cap'] w fun e w' => e = .returned (.bool (decide (l = l'))) ∧ w' = w := by
  have r1 := run_string h
  have r2 := run_string h'
  have hi : Hid (strOfNums l = strOfNums l' ↔ l = l') := strOfNums_inj h.bytes h'.bytes
  clear h h'
  go_enter Try.func11, Try.ntmps11
  go_wp2
  go_ret
  exact ⟨ret_bool (by rw [Bool.eq_iff_iff, beq_iff_eq, decide_eq_true_iff, ← hi.out]; exact toList_inj _ _), rfl⟩

set_option maxHeartbeats 400000 in
theorem short_any (w : World) (a : Option Addr) (len cap : Nat) (l : List Int) (h : Has w a len cap l) :
    Calls Try.prog 9 #[.slice a len cap] w fun e w' => e = .returned (.slice a (min len 200) cap) ∧ w' = w := by
  have h1 := h.le
  have h2 := h.capb
  unfold maxLen at h2
  clear h
  by_cases hs : len ≤ 200
  · go_enter Try.func9, Try.ntmps9
    go_wp2
    all_goals go_ret
    all_goals exact ⟨by rw [show min len 200 = len by omega]; rfl, rfl⟩
  · have hs' : 200 < (len : Int) := by omega
    go_enter Try.func9, Try.ntmps9
    go_wp2
    all_goals go_ret
    all_goals exact ⟨by rw [show min len 200 = 200 by omega]; rfl, rfl⟩
end Go.Proofs.Ythdgkkingajgnaa
