/-
  What ProgReads is about: the program of a pattern may be, and only its last instruction ends it.
-/
import Derived.Test.YtkfdikpnnkbgaaaGreatDoorDE
import Derived.Test.YtkfdikpnnkbgaaaGreatDoorCL
namespace Go.Proofs.YtkfdikpnnkbgaaaGreatDoor
open Go.RowKit Go.Shelf Go.Lib
set_option linter.unusedVariables false
set_option linter.unusedSimpArgs false

theorem eqS_refl (s : S4) : eqS s s = true := by simp [eqS]
theorem tgt_in {n m : Nat} {z : Int} (h : Tgt (fun _ => False) 0 n m z) (hm : n ≤ m) : 0 ≤ z ∧ z ≤ (m : Int) := by
  rcases h with h | h | h
  · omega
  · omega
  · exact h.elim
/-- An instruction of a pattern's code fits a program of one more. -/
theorem fit_of_ok {n : Nat} {i : Ins} (h : OkI (fun _ => False) 0 n n i) : fitI i (n + 1) = true ∧ i.op ≠ 3 := by
  obtain ⟨h1, h2⟩ := h
  have hx := tgt_in h2 (Nat.le_refl _)
  rcases h1 with ⟨h, hy⟩ | ⟨h, hs, hy⟩ | ⟨h, hs, hy⟩
  · refine ⟨?_, by omega⟩
    unfold fitI
    rw [h, hy]
    simp [fm, bnd, inB]
    omega
  · refine ⟨?_, by omega⟩
    unfold fitI
    rw [h, hy, hs, eqS_refl]
    simp [fm, bnd, inB]
    omega
  · have hy := tgt_in hy (Nat.le_refl _)
    refine ⟨?_, by omega⟩
    unfold fitI
    rw [h, hs, eqS_refl]
    simp [fm, bnd, inB]
    omega
theorem prg_chk (t : Tr) (hf : fitT t) (hn : (prg t).n ≤ 2048) : chkI ((prg t).put 0 0) = 0 := by
  have hl := (prg t).len 0 0
  have hp := (prg t).pos
  have hN := cdT_nice t hf
  unfold chkI
  rw [if_neg (by omega), if_pos]
  rw [List.all_eq_true]
  intro i hi
  rw [hl, prg_n]
  rw [prg_put] at hi
  rcases List.mem_append.1 hi with hi | hi
  · exact (fit_of_ok (by simpa using hN.ops 0 (cdT t).n i hi)).1
  · rw [List.mem_singleton.1 hi]
    simp [fitI, fm, bnd, inB, eqS_refl]
theorem prg_last (t : Tr) (hf : fitT t) {k : Nat} {i : Ins} (hi : ((prg t).put 0 0)[k]? = some i) : (k + 1 = (prg t).n ∧ i.op = 3) ∨ (k + 1 ≠ (prg t).n ∧ i.op ≠ 3) := by
  have hN := cdT_nice t hf
  have hl := (cdT t).len 0 (cdT t).n
  rw [prg_put] at hi
  rw [prg_n]
  by_cases hk : k < (cdT t).n
  · rw [List.getElem?_append_left (by omega)] at hi
    exact .inr ⟨by omega, (fit_of_ok (by simpa using hN.ops 0 (cdT t).n i (List.mem_of_getElem? hi))).2⟩
  · rw [List.getElem?_append_right (by omega)] at hi
    have h1 := (List.getElem?_eq_some_iff.1 hi).1
    simp only [List.length_singleton] at h1
    have h2 : k - ((cdT t).put 0 (cdT t).n).length = 0 := by omega
    rw [h2] at hi
    cases hi
    exact .inl ⟨by omega, rfl⟩
end Go.Proofs.YtkfdikpnnkbgaaaGreatDoor
