/-
  The walk of the statements' same: lists of bytes are held against each other.
-/
import Derived.Test.YtbaclihlckfndaaDoorQ
namespace Go.Proofs.YtbaclihlckfndaaDoor
open Go.RowKit
set_option linter.unusedVariables false

theorem same_step {ls ms : List (List Int)} {k : Nat} (h1 : k < ls.length) (h2 : k < ms.length) (h : ls.take k = ms.take k) (e : ls.getD k [] = ms.getD k []) : ls.take (k + 1) = ms.take (k + 1) := by
  rw [List.take_add_one, List.take_add_one, h, List.getElem?_eq_getElem h1, List.getElem?_eq_getElem h2]
  have : ls[k] = ms[k] := by simpa [List.getD, List.getElem?_eq_getElem h1, List.getElem?_eq_getElem h2] using e
  rw [this]

set_option maxHeartbeats 1000000 in
theorem sameL_any (w : World) (a a' : Option Addr) (len len' cap cap' : Nat) (ls ms : List (List Int)) (h : HasL w a len cap ls) (h' : HasL w a' len' cap' ms) :
    Calls Tryd.prog 20 #[.slice a len cap, .slice a' len' cap'] w fun e w' => e = .returned (.bool (decide (ls = ms))) ∧ ∃ m, w' = w.drewN m := by
  have hl := h.hlen
  have hl' := h'.hlen
  have hcap := h.capb
  have hle := h.le
  unfold maxLen at hcap
  by_cases hll : len = len'
  · subst hll
    have hc := hide h.cells
    have hc' := hide h'.cells
    clear h h'
    go_enter Tryd.func20, Tryd.ntmps20
    go_wp2
    go_loopw [5] (fun i wr => ∃ k : Nat, k ≤ len ∧ i = .int .i64 k ∧ Hid (∃ m, wr = w.drewN m) ∧ Hid (ls.take k = ms.take k)) (fun i _ => len - (intOf i).toNat)
    case atStart => exact ⟨0, Nat.zero_le _, rfl, (⟨0, rfl⟩ : ∃ m, w = w.drewN m), (rfl : ls.take 0 = ms.take 0)⟩
    case round =>
      obtain ⟨k, hk, rfl, hwr, ht⟩ := hrel
      by_cases hkl : k < len
      · obtain ⟨b, off, rfl, _, hcl⟩ := hc.out (by omega)
        obtain ⟨b', off', rfl, _, hcl'⟩ := hc'.out (by omega)
        obtain ⟨ai, ni, ci, e1, e2⟩ := hcl k hkl
        obtain ⟨bi, mi, di, f1, f2⟩ := hcl' k hkl
        have i1 : (k : Int) < len := by omega
        have hhp : wr.heap = w.heap := by obtain ⟨m, e⟩ := hwr.out; rw [e]; rfl
        replace e1 : wr.cell? ⟨b, off + k, none⟩ = some (.slice ai ni ci) := (World.cell?_of_block (by rw [hhp])).trans e1
        replace f1 : wr.cell? ⟨b', off' + k, none⟩ = some (.slice bi mi di) := (World.cell?_of_block (by rw [hhp])).trans f1
        have hsame : Hid (∀ q, Calls Tryd.prog 13 #[.slice ai ni ci, .slice bi mi di] (wr.drewN q) fun e w' => e = .returned (.bool (decide (ls.getD k [] = ms.getD k []))) ∧ w' = wr.drewN q) := fun q => same_any _ ai bi ni mi ci di _ _ (e2.heap hhp) (f2.heap hhp)
        replace hhp := hide hhp
        clear hcl hcl'
        by_cases he : ls.getD k [] = ms.getD k []
        · rw [show decide (ls.getD k [] = ms.getD k []) = true by simpa using he] at hsame
          have hnew : Hid (ls.take (k + 1) = ms.take (k + 1)) := same_step (by omega) (by omega) ht.out he
          clear e2 f2 he
          go_wp2_with fail
          go_quiet ((go_at_call 13; exact Calls.quiet_of_same (hsame.out _)))
          go_wp2_with fail
          go_roundw
          case rel => exact ⟨k + 1, by omega, by go_num, (by obtain ⟨m, e⟩ := hwr.out; exact ⟨m + nq, by rw [e, World.drewN_drewN]⟩ : ∃ m, wr.drewN nq = w.drewN m), hnew⟩
          case measure => simp [intOf]; omega
        · rw [show decide (ls.getD k [] = ms.getD k []) = false by simpa using he] at hsame
          have hne : Hid (ls ≠ ms) := fun e => he (by rw [e])
          clear e2 f2 he
          go_wp2_with fail
          go_quiet ((go_at_call 13; exact Calls.quiet_of_same (hsame.out _)))
          go_wp2_with fail
          go_ret
          exact ⟨by rw [show decide (ls = ms) = false by simpa using hne.out]; rfl, by obtain ⟨m, e⟩ := hwr.out; exact ⟨m + nq, by rw [e, World.drewN_drewN]⟩⟩
      · obtain rfl : k = len := by omega
        have he : Hid (ls = ms) := by
          have := ht.out
          rwa [List.take_of_length_le (by omega), List.take_of_length_le (by omega)] at this
        go_wp2
        go_ret
        exact ⟨by rw [show decide (ls = ms) = true by simpa using he.out]; rfl, hwr.out⟩
  · have hne : Hid (ls ≠ ms) := fun e => hll (by rw [← hl, ← hl', e])
    have hll' : ¬ ((len : Int) = (len' : Int)) := by omega
    clear h h'
    go_enter Tryd.func20, Tryd.ntmps20
    go_wp2
    go_ret
    exact ⟨by rw [show decide (ls = ms) = false by simpa using hne.out]; rfl, 0, rfl⟩
end Go.Proofs.YtbaclihlckfndaaDoor
