/-
  Mathematics: a step of merging.
-/
import Derived.Test.YthkfbdcocnhebaaNum
namespace Go.Proofs.Ythkfbdcocnhebaa
set_option linter.unusedVariables false
/-- A pair that may be handed out. -/
structure Mp where
  n : Int
  p : Int
  h : (p = 1 ∨ p = 2 ∨ p = 4) ∧ 0 ≤ n ∧ n < 18446744073709551616
def Mp.v (x : Mp) : Int × Int := (x.n, x.p)
/-- The least number of two lists, and its place. -/
def fst2 : List Int → List Int → Int × Int
  | [], [] => (0, 0)
  | [], y :: _ => (y, 2)
  | x :: _, [] => (x, 1)
  | x :: _, y :: _ => if x < y then (x, 1) else if y < x then (y, 2) else (x, 4)
theorem mg_step (l m : List Int) (h : l ≠ [] ∨ m ≠ []) :
    (∃ x, fst2 l m = (x, 1) ∧ l ≠ [] ∧ x ∈ l ∧ mg l m = (x, 1) :: mg (l.drop 1) m) ∨ (∃ x, fst2 l m = (x, 2) ∧ m ≠ [] ∧ x ∈ m ∧ mg l m = (x, 2) :: mg l (m.drop 1)) ∨ (∃ x, fst2 l m = (x, 4) ∧ l ≠ [] ∧ m ≠ [] ∧ x ∈ l ∧ mg l m = (x, 4) :: mg (l.drop 1) (m.drop 1)) := by
  cases l with
  | nil =>
    cases m with
    | nil => simp at h
    | cons y m => exact .inr (.inl ⟨y, rfl, by simp, by simp, mg_r y m⟩)
  | cons x l =>
    cases m with
    | nil => exact .inl ⟨x, rfl, by simp, by simp, mg_l x l⟩
    | cons y m =>
      by_cases h1 : x < y
      · exact .inl ⟨x, by rw [fst2, if_pos h1], by simp, by simp, mg_lt l m h1⟩
      · by_cases h2 : y < x
        · exact .inr (.inl ⟨y, by rw [fst2, if_neg h1, if_pos h2], by simp, by simp, mg_gt l m h2⟩)
        · obtain rfl : x = y := by omega
          exact .inr (.inr ⟨x, by rw [fst2, if_neg h1, if_neg h2], by simp, by simp, by simp, mg_eq x l m⟩)
end Go.Proofs.Ythkfbdcocnhebaa
