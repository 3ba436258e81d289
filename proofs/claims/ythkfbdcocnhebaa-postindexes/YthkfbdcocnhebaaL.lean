/-
  An index that no call made; New.
-/
import Derived.Test.YthkfbdcocnhebaaI
import Derived.Carry
namespace Go.Proofs.Ythkfbdcocnhebaa
open Go.RowKit
set_option linter.unusedVariables false
set_option linter.unusedSimpArgs false

/-- A pointer to an index that no call made: nil, or of its zero value. -/
def NoIx (w : World) (v : Value) : Prop := v = .pointer none ∨ ∃ p, v = .pointer (some ⟨p, 0, none⟩) ∧ w.heap[p]? = some (.cells #[.map none] 68 (0, 0))
theorem NoIx.below {w w' : World} {v : Value} (h : NoIx w v) (hb : Below w.heap.size w w') : NoIx w' v := by
  rcases h with h | ⟨p, h1, h2⟩
  · exact .inl h
  · exact .inr ⟨p, h1, (hb.block p (Array.getElem?_eq_some_iff.1 h2).1).trans h2⟩
theorem equalIn_map (w : World) (d : Nat) (b : Option Nat) : (Op.equalIn (d + 1) 66 (.map b) (.map none)).run Try.prog w = .ok b.isNone w := by
  cases b <;> simp [Op.equalIn, run_underlying Try.underlying66]
theorem eql_map (w : World) (b : Option Nat) : (binOp .eql 66 (.map b) (.map none)).run Try.prog w = .ok (.bool b.isNone) w := by
  have h : (Op.equal 66 (.map b) (.map none)).run Try.prog w = .ok b.isNone w := equalIn_map w 9999 b
  cases b <;> simp_all [binOp]
set_option maxHeartbeats 1000000 in
theorem void_no (w : World) (v : Value) (h : NoIx w v) : Calls Try.prog 42 #[v] w fun e w' => e = .returned (.bool true) ∧ w' = w := by
  rcases h with rfl | ⟨p, rfl, hp⟩
  · go_enter Try.func42, Try.ntmps42
    go_wp2
    go_ret
    exact ⟨rfl, rfl⟩
  · have c := cell_row hp 0 (v := .map none) rfl
    have hq : (binOp .eql 66 (.map none) (.map none)).run Try.prog w = .ok (.bool true) w := eql_map w none
    go_enter Try.func42, Try.ntmps42
    go_wp2
    go_ret
    exact ⟨rfl, rfl⟩
set_option maxHeartbeats 1000000 in
theorem void_made (w : World) (p m : Nat) (hp : w.heap[p]? = some (.cells #[.map (some m)] 68 (0, 0))) : Calls Try.prog 42 #[.pointer (some ⟨p, 0, none⟩)] w fun e w' => e = .returned (.bool false) ∧ w' = w := by
  have c := cell_row hp 0 (v := .map (some m)) rfl
  have hq : (binOp .eql 66 (.map (some m)) (.map none)).run Try.prog w = .ok (.bool false) w := eql_map w (some m)
  clear hp
  go_enter Try.func42, Try.ntmps42
  go_wp2
  go_ret
  exact ⟨rfl, rfl⟩
set_option maxHeartbeats 1000000 in
theorem put_no (w : World) (v : Value) (h : NoIx w v) (k : ByteArray) (n : Int) : Calls Try.prog 30 #[v, .string k, .int .u64 n] w fun e w' => e = .returned (.int .i64 1) ∧ w' = w := by
  have V := hide (void_no w v h)
  clear h
  go_enter Try.func30, Try.ntmps30
  go_wp2_with fail
  refine V.out.mono ?_
  rintro e w1 ⟨rfl, rfl⟩
  go_wp2_with fail
  go_ret
  exact ⟨rfl, rfl⟩
set_option maxHeartbeats 1000000 in
theorem take_no (w : World) (v : Value) (h : NoIx w v) (k : ByteArray) (n : Int) : Calls Try.prog 32 #[v, .string k, .int .u64 n] w fun e w' => e = .returned (.int .i64 1) ∧ w' = w := by
  have V := hide (void_no w v h)
  clear h
  go_enter Try.func32, Try.ntmps32
  go_wp2_with fail
  refine V.out.mono ?_
  rintro e w1 ⟨rfl, rfl⟩
  go_wp2_with fail
  go_ret
  exact ⟨rfl, rfl⟩
set_option maxHeartbeats 1000000 in
theorem list_no (w : World) (v : Value) (h : NoIx w v) (k : ByteArray) : Calls Try.prog 34 #[v, .string k] w fun e w' => e = .returned (.slice none 0 0) ∧ w' = w := by
  have V := hide (void_no w v h)
  clear h
  go_enter Try.func34, Try.ntmps34
  go_wp2_with fail
  refine V.out.mono ?_
  rintro e w1 ⟨rfl, rfl⟩
  go_wp2_with fail
  go_ret
  exact ⟨rfl, rfl⟩
set_option maxHeartbeats 1000000 in
theorem keys_no (w : World) (v : Value) (h : NoIx w v) : Calls Try.prog 36 #[v] w fun e w' => e = .returned (.slice none 0 0) ∧ w' = w := by
  have V := hide (void_no w v h)
  clear h
  go_enter Try.func36, Try.ntmps36
  go_wp2_with fail
  refine V.out.mono ?_
  rintro e w1 ⟨rfl, rfl⟩
  go_wp2_with fail
  go_ret
  exact ⟨rfl, rfl⟩
set_option maxHeartbeats 1000000 in
theorem size_no (w : World) (v : Value) (h : NoIx w v) : Calls Try.prog 37 #[v] w fun e w' => e = .returned (.int .i64 0) ∧ w' = w := by
  have V := hide (void_no w v h)
  clear h
  go_enter Try.func37, Try.ntmps37
  go_wp2_with fail
  refine V.out.mono ?_
  rintro e w1 ⟨rfl, rfl⟩
  go_wp2_with fail
  go_ret
  exact ⟨rfl, rfl⟩
set_option maxHeartbeats 1000000 in
theorem new_any (w : World) : Calls Try.prog 29 #[] w fun e w' => ∃ p m, e = .returned (.pointer (some ⟨p, 0, none⟩)) ∧ w'.heap[p]? = some (.cells #[.map (some m)] 68 (0, 0)) ∧ w'.heap[m]? = some (.map #[] 0) ∧ Below w.heap.size w w' ∧ w.heap.size ≤ p ∧ w.heap.size ≤ m := by
  have h1 := heap_alloc_new w (.map #[] 0)
  have hmm := @run_makeMap Try.prog
  go_enter Try.func29, Try.ntmps29
  go_wp2
  go_ret
  have h2 := heap_alloc_new (w.alloc (.map #[] 0)) (.cells #[.map (some w.heap.size)] 68)
  rw [World.size_alloc] at h2
  refine ⟨w.heap.size + 1, w.heap.size, rfl, h2, ?_, ((Below.refl _ w).alloc (Nat.le_refl _) _).alloc (by simp) _, by omega, Nat.le_refl _⟩
  rw [Below.heap_alloc _ _ _ (by simp)]
  exact h1
end Go.Proofs.Ythkfbdcocnhebaa
