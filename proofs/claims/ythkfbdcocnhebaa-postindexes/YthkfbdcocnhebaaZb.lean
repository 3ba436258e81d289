/-
  Where a number lies in a rising list: what Insert at its place, and Delete there, make of it.
-/
import Derived.Test.YthkfbdcocnhebaaX
import Derived.Test.YthkfbdcocnhebaaQ
namespace Go.Proofs.Ythkfbdcocnhebaa
open Go.RowKit
set_option linter.unusedVariables false
set_option linter.unusedSimpArgs false

theorem up_cut {l : List Int} (h : Up l) (x : Int) : l.take (pos l x) = l.filter (fun y => decide (y < x)) ∧ l.drop (pos l x) = l.filter (fun y => decide (x ≤ y)) := by
  induction l with
  | nil => simp [pos]
  | cons a r ih =>
    have hr : Up r := (List.pairwise_cons.1 h).2
    have ha : ∀ y ∈ r, a < y := (List.pairwise_cons.1 h).1
    obtain ⟨i1, i2⟩ := ih hr
    by_cases h1 : a < x
    · have h2 : ¬ x ≤ a := by omega
      have e : pos (a :: r) x = pos r x + 1 := by simp [pos, h1]
      rw [e, List.take_succ_cons, List.drop_succ_cons, i1, i2]
      simp [h1, h2]
    · have h2 : x ≤ a := by omega
      have n1 : (a :: r).filter (fun y => decide (y < x)) = [] := by
        rw [List.filter_eq_nil_iff]
        intro y hy
        rcases List.mem_cons.1 hy with rfl | hy
        · simpa using h1
        · have := ha y hy; simp; omega
      have n2 : (a :: r).filter (fun y => decide (x ≤ y)) = a :: r := by
        rw [List.filter_eq_self]
        intro y hy
        rcases List.mem_cons.1 hy with rfl | hy
        · simpa using h2
        · have := ha y hy; simp; omega
      have e : pos (a :: r) x = 0 := by unfold pos; rw [n1]; rfl
      rw [e, n1, n2]
      exact ⟨rfl, rfl⟩
theorem ins_pos {l : List Int} (h : Up l) {x : Int} (hx : x ∉ l) : l.take (pos l x) ++ [x] ++ l.drop (pos l x) = addL l x := by
  obtain ⟨e1, e2⟩ := up_cut h x
  have e3 : l.filter (fun y => decide (x ≤ y)) = l.filter (fun y => decide (x < y)) := List.filter_congr (fun y hy => by
    have : y ≠ x := fun e => hx (e ▸ hy)
    have : x ≤ y ↔ x < y := by omega
    simp [this])
  unfold addL
  rw [e1, e2, e3]
theorem add_in {l : List Int} (h : Up l) {x : Int} (hx : x ∈ l) : addL l x = l :=
  up_ext (up_addL h x) h (fun y => by
    rw [mem_addL]
    constructor
    · rintro (h | rfl)
      · exact h
      · exact hx
    · exact .inl)
theorem drop_out {l : List Int} {x : Int} (hx : x ∉ l) : dropL l x = l := by
  unfold dropL
  rw [List.filter_eq_self]
  intro y hy
  have : y ≠ x := fun e => hx (e ▸ hy)
  simpa using this
theorem del_pos {l : List Int} (h : Up l) {x : Int} (hx : x ∈ l) : l.take (pos l x) ++ l.drop (pos l x + 1) = dropL l x := by
  have hp : pos l x < l.length := by
    rcases Nat.lt_or_ge (pos l x) l.length with h1 | h1
    · exact h1
    · obtain ⟨_, e2⟩ := up_cut h x
      rw [List.drop_eq_nil_of_le h1] at e2
      have : x ∈ l.filter (fun y => decide (x ≤ y)) := List.mem_filter.2 ⟨hx, by simp⟩
      rw [← e2] at this; simp at this
  obtain ⟨e1, e2⟩ := up_cut h x
  have hs := List.drop_eq_getElem_cons hp
  have hu : Up (l.drop (pos l x)) := h.sublist (List.drop_sublist _ _)
  have hmx : x ∈ l.drop (pos l x) := by rw [e2]; exact List.mem_filter.2 ⟨hx, by simp⟩
  rw [hs] at hu hmx
  have hlt := (List.pairwise_cons.1 hu).1
  have hge : x ≤ l[pos l x] := by
    have : l[pos l x] ∈ l.filter (fun y => decide (x ≤ y)) := by
      have h9 : l[pos l x] ∈ l.drop (pos l x) := List.mem_of_getElem? (i := 0) (by rw [List.getElem?_drop, Nat.add_zero, List.getElem?_eq_getElem hp])
      rwa [e2] at h9
    simpa using (List.mem_filter.1 this).2
  have hxe : l[pos l x] = x := by
    rcases List.mem_cons.1 hmx with e | e
    · exact e.symm
    · have := hlt x e; omega
  refine up_ext ?_ (up_dropL h x) (fun y => ?_)
  · refine List.pairwise_append.2 ⟨h.sublist (List.take_sublist _ _), h.sublist (List.drop_sublist _ _), fun a ha b hb => ?_⟩
    rw [e1] at ha
    have h1 : a < x := by simpa using (List.mem_filter.1 ha).2
    have h2 := hlt b hb
    omega
  · rw [mem_dropL, List.mem_append]
    constructor
    · rintro (h1 | h1)
      · rw [e1] at h1
        have h2 : y < x := by simpa using (List.mem_filter.1 h1).2
        exact ⟨(List.mem_filter.1 h1).1, by omega⟩
      · have h2 := hlt y h1
        exact ⟨List.mem_of_mem_drop h1, by omega⟩
    · rintro ⟨h1, h2⟩
      rw [← List.take_append_drop (pos l x) l] at h1
      rcases List.mem_append.1 h1 with h1 | h1
      · exact .inl h1
      · rw [hs] at h1
        rcases List.mem_cons.1 h1 with e | e
        · exact (h2 (e.trans hxe)).elim
        · exact .inr e
end Go.Proofs.Ythkfbdcocnhebaa
