/-
  first: the least number of two lists; cutting a list's first number off.
-/
import Derived.Test.YthkfbdcocnhebaaC
import Derived.Test.YthkfbdcocnhebaaNumB
namespace Go.Proofs.Ythkfbdcocnhebaa
open Go.RowKit
set_option linter.unusedVariables false
set_option linter.unusedSimpArgs false

theorem ret_two {a b : Int} {p q : Int} (h : (a, p) = (b, q)) : Ending.returned (.tuple #[.int .u64 a, .int .i64 p]) = .returned (.tuple #[.int .u64 b, .int .i64 q]) := by cases h; rfl
theorem HasU.cons {w : World} {a : Option Addr} {n c : Nat} {l : List Int} (h : HasU w a n c l) (hn : 0 < n) : ∃ b off x t, a = some ⟨b, off, none⟩ ∧ l = x :: t ∧ w.cell? ⟨b, off, none⟩ = some (.int .u64 x) := by
  obtain ⟨b, off, e1, e2, e3, e4⟩ := h.at 0 hn
  have hl := h.hlen
  cases l with
  | nil => simp at hl; omega
  | cons x t => exact ⟨b, off, x, t, e1, rfl, by simpa using e3⟩
set_option maxHeartbeats 2000000 in
theorem first_any (w : World) (a a' : Option Addr) (n n' c c' : Nat) (l l' : List Int) (h : HasU w a n c l) (h' : HasU w a' n' c' l') (hs : n ≤ 1000000000) (hs' : n' ≤ 1000000000) (hne : 0 < n ∨ 0 < n') :
    Calls Try.prog 68 #[.slice a n c, .slice a' n' c'] w fun e w' => e = .returned (.tuple #[.int .u64 (fst2 l l').1, .int .i64 (fst2 l l').2]) ∧ Below w.heap.size w w' := by
  by_cases hn : 0 < n
  · obtain ⟨b, off, x, t, rfl, rfl, c1⟩ := h.cons hn
    have i1 : (0 : Int) < (n : Int) := by omega
    have i2 : ((n : Int) == 0) = false := by simp; omega
    by_cases hn' : 0 < n'
    · obtain ⟨b', off', y, t', rfl, rfl, c2⟩ := h'.cons hn'
      have i3 : (0 : Int) < (n' : Int) := by omega
      have i4 : ((n' : Int) == 0) = false := by simp; omega
      clear h h'
      by_cases k1 : x < y
      · have hr : Hid (fst2 (x :: t) (y :: t') = (x, 1)) := by show _ = _; rw [fst2, if_pos k1]
        go_enter Try.func68, Try.ntmps68
        go_wp2_with fail
        go_quiet (fail)
        go_wp2_with fail
        go_ret2
        exact ⟨ret_two hr.out.symm, below_drewN (Below.refl _ _) nq⟩
      · have k1d : decide (x < y) = false := by simpa using k1
        by_cases k2 : y < x
        · have hr : Hid (fst2 (x :: t) (y :: t') = (y, 2)) := by show _ = _; rw [fst2, if_neg k1, if_pos k2]
          clear k1
          go_enter Try.func68, Try.ntmps68
          go_wp2_with fail
          go_quiet (fail)
          go_wp2_with fail
          go_quiet (fail)
          go_wp2_with fail
          go_ret2
          exact ⟨ret_two hr.out.symm, below_drewN (Below.refl _ _) _⟩
        · have hr : Hid (fst2 (x :: t) (y :: t') = (x, 4)) := by show _ = _; rw [fst2, if_neg k1, if_neg k2]
          have k2d : decide (y < x) = false := by simpa using k2
          clear k1 k2
          go_enter Try.func68, Try.ntmps68
          go_wp2_with fail
          go_quiet (fail)
          go_wp2_with fail
          go_quiet (fail)
          go_wp2_with fail
          go_ret2
          exact ⟨ret_two hr.out.symm, below_drewN (Below.refl _ _) _⟩
    · obtain rfl : n' = 0 := by omega
      obtain rfl := h'.empty
      clear h h'
      have hr : Hid (fst2 (x :: t) [] = (x, 1)) := (rfl : _ = _)
      go_enter Try.func68, Try.ntmps68
      go_wp2_with fail
      go_quiet (fail)
      go_wp2_with fail
      go_ret2
      exact ⟨ret_two hr.out.symm, below_drewN (Below.refl _ _) nq⟩
  · obtain rfl : n = 0 := by omega
    obtain rfl := h.empty
    obtain ⟨b', off', y, t', rfl, rfl, c2⟩ := h'.cons (by omega)
    have i3 : (0 : Int) < (n' : Int) := by omega
    have i4 : ((n' : Int) == 0) = false := by simp; omega
    clear h h'
    have hr : Hid (fst2 [] (y :: t') = (y, 2)) := (rfl : _ = _)
    go_enter Try.func68, Try.ntmps68
    go_wp2_with fail
    go_quiet (fail)
    go_wp2_with fail
    go_quiet (fail)
    go_wp2_with fail
    go_ret2
    exact ⟨ret_two hr.out.symm, below_drewN (Below.refl _ _) _⟩
/-- The first number is cut off. -/
theorem HasU.drop1 {w : World} {a : Option Addr} {n c : Nat} {l : List Int} (h : HasU w a n c l) (hn : 0 < n) : HasU w (if c = 1 then a else a.map (·.add 1)) (n - 1) (c - 1) (l.drop 1) := by
  have hl := h.hlen
  have hc := h.le
  have hm := h.capb
  refine ⟨by simp; omega, by omega, by omega, fun e => ?_, fun hp => ?_, fun x hx => h.range x (List.mem_of_mem_drop hx)⟩
  · have hz := h.nil
    cases a with
    | none => have := hz rfl; omega
    | some a => split at e <;> simp at e
  · obtain ⟨b, off, e1, e2, e3⟩ := h.cells (by omega)
    refine ⟨b, off + 1, ?_, e2, fun i hi => ?_⟩
    · rw [if_neg (by omega), e1, Option.map_some, add_plain]
    · have := e3 (1 + i) (by omega)
      rw [Nat.add_assoc, this]
      simp [List.getD, List.getElem?_drop, Nat.add_comm]
theorem run_cut1 (w : World) (a : Option Addr) (n c : Nat) (hn : 0 < n) : (Instr.sliceAt 23 (.slice a n c) (some (.int .i64 1)) none none).run Try.prog w = .ok (.slice (if c = 1 then a else a.map (·.add 1)) (n - 1) (c - 1)) w := by
  have hz : ∀ w, (sizeOf 24).run Try.prog w = .ok 1 w := fun w => by kernel_rfl
  have hu := Try.underlying23
  have hb : (Instr.sliceBounds true n c (some (.int .i64 1)) none none).run Try.prog w = .ok (1, n, c) w := by
    have h0 : (0 : Int) ≤ 1 ∧ (1 : Int) ≤ (n : Int) := by omega
    simp [Instr.sliceBounds, Instr.sliceBound, go_sem, h0]
  unfold Instr.sliceAt
  simp only [Sem.run_bind, run_underlying hu, Result.andThen_ok]
  unfold Instr.slice
  simp only [Sem.run_bind, run_underlying hu, Result.andThen_ok, hb, hz, Sem.run_pure, Nat.mul_one]
set_option maxHeartbeats 400000 in
theorem merged_any (w : World) (a a' : Option Addr) (n n' c c' : Nat) :
    Calls Try.prog 58 #[.slice a n c, .slice a' n' c'] w fun e w' => ∃ g g', e = .returned (.func (.func 67) #[] #[.pointer (some ⟨g, 0, none⟩), .pointer (some ⟨g', 0, none⟩)]) ∧ w'.heap[g]? = some (.cells #[.slice a n c] 23 (0, 0)) ∧ w'.heap[g']? = some (.cells #[.slice a' n' c'] 23 (0, 0)) ∧ Below w.heap.size w w' ∧ w.heap.size ≤ g ∧ w.heap.size ≤ g' := by
  have hmf : ∀ (fn : Fn) (first cap : Array Value) (w : World), (Instr.makeFunc fn first cap).run Try.prog w = .ok (.func fn first cap) w := fun _ _ _ _ => rfl
  have h1 := heap_alloc_new w (.cells #[.slice a n c] 23)
  have h2 := heap_alloc_new (w.alloc (.cells #[.slice a n c] 23)) (.cells #[.slice a' n' c'] 23)
  rw [show (w.alloc (.cells #[.slice a n c] 23)).heap.size = w.heap.size + 1 by simp] at h2
  have h3 : ((w.alloc (.cells #[.slice a n c] 23)).alloc (.cells #[.slice a' n' c'] 23)).heap[w.heap.size]? = some (.cells #[.slice a n c] 23 (0, 0)) := (Below.heap_alloc _ _ _ (by simp)).trans h1
  go_enter Try.func58, Try.ntmps58
  go_wp2
  go_ret
  exact ⟨_, _, rfl, h3, h2, ((Below.refl _ w).alloc (Nat.le_refl _) _).alloc (by simp) _, Nat.le_refl _, by simp⟩
end Go.Proofs.Ythkfbdcocnhebaa
