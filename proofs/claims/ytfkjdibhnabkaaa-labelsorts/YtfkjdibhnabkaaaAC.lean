/-
  The mathematics of the reference's With; the walk of its Name.
-/
import Derived.Test.YtfkjdibhnabkaaaAB
namespace Go.Proofs.Ytfkjdibhnabkaaa
open Go.RowKit Go.Shelf Go.Lib
set_option linter.unusedVariables false
set_option linter.unusedSimpArgs false

theorem riseB_iff (L : List Lab) : riseB L = true ↔ ∀ j, j + 1 < L.length → s3 (L.getD j noLab).1 (L.getD (j + 1) noLab).1 < 0 := by
  constructor
  · intro h j hj
    have := (List.pairwise_iff_getElem.1 (asc_of_riseB L h)) j (j + 1) (by omega) hj (by omega)
    simpa only [List.getD, List.getElem?_eq_getElem hj, List.getElem?_eq_getElem (show j < L.length by omega), Option.getD_some] using this
  · intro h
    unfold riseB
    rw [List.all_eq_true]
    intro y hy
    obtain ⟨i, hi, rfl⟩ := List.mem_iff_getElem.1 hy
    rw [List.length_zip, List.length_tail] at hi
    have := h i (by omega)
    simp only [List.getD, List.getElem?_eq_getElem (show i + 1 < L.length by omega), List.getElem?_eq_getElem (show i < L.length by omega), Option.getD_some] at this
    simpa using this
theorem chkB_bad {L : List Lab} {k : Nat} (hk : k < L.length) (h : (nameB (L.getD k noLab).1 && isVal (L.getD k noLab).2) = false) : chkB L = false := by
  unfold chkB
  rw [Bool.and_eq_false_iff]
  right
  rw [List.all_eq_false]
  refine ⟨L.getD k noLab, by simp [List.getD, List.getElem?_eq_getElem hk], by rw [h]; simp⟩
theorem chkB_fall {L : List Lab} {k : Nat} (hk : k + 1 < L.length) (h : ¬ s3 (L.getD k noLab).1 (L.getD (k + 1) noLab).1 < 0) : chkB L = false := by
  have : riseB L = false := by
    cases hr : riseB L with
    | false => rfl
    | true => exact absurd ((riseB_iff L).1 hr k hk) h
  unfold chkB
  simp [this]
theorem chkB_good {L : List Lab} (h0 : 0 < L.length) (h1 : L.length ≤ 16) (h2 : ∀ k, k < L.length → (nameB (L.getD k noLab).1 && isVal (L.getD k noLab).2) = true) (h3 : ∀ j, j + 1 < L.length → s3 (L.getD j noLab).1 (L.getD (j + 1) noLab).1 < 0) : chkB L = true := by
  unfold chkB
  rw [(riseB_iff L).2 h3]
  simp only [h0, h1, decide_true, Bool.true_and, Bool.and_true, List.all_eq_true]
  intro x hx
  obtain ⟨i, hi, rfl⟩ := List.mem_iff_getElem.1 hx
  have := h2 i hi
  simpa only [List.getD, List.getElem?_eq_getElem hi, Option.getD_some] using this

/-- How many names are ahead of s. -/
theorem split_at (L : List Lab) (s : Str) (h : Asc L) : ∃ j, j ≤ L.length ∧ (∀ k, k < j → s3 (L.getD k noLab).1 s < 0) ∧ (∀ k, j ≤ k → k < L.length → ¬ s3 (L.getD k noLab).1 s < 0) := by
  induction L with
  | nil => exact ⟨0, Nat.le_refl _, fun k hk => by omega, fun k _ hk => by simp at hk⟩
  | cons x L ih =>
    have hx := List.pairwise_cons.1 h
    by_cases hs : s3 x.1 s < 0
    · obtain ⟨j, h1, h2, h3⟩ := ih hx.2
      refine ⟨j + 1, by simp; omega, fun k hk => ?_, fun k hk hk2 => ?_⟩
      · cases k with
        | zero => simpa using hs
        | succ k => simpa using h2 k (by omega)
      · cases k with
        | zero => omega
        | succ k => simpa using h3 k (by omega) (by simpa using hk2)
    · refine ⟨0, Nat.zero_le _, fun k hk => by omega, fun k _ hk2 => ?_⟩
      cases k with
      | zero => simpa using hs
      | succ k =>
        have hk3 : k < L.length := by simpa using hk2
        have hm : L.getD k noLab ∈ L := by simp [List.getD, List.getElem?_eq_getElem hk3]
        have h4 := hx.1 _ hm
        intro h5
        have h6 : s3 (L.getD k noLab).1 s < 0 := by simpa using h5
        exact hs (s3_trans h4 h6)
/-- What the reference makes. -/
def refW (L : List Lab) (s v : Str) (j : Nat) : List Lab := L.take j ++ filB [(s, v)] ++ offB (L.drop j) s
theorem getD_mem_take {L : List Lab} {j : Nat} {x : Lab} (h : x ∈ L.take j) : ∃ k, k < j ∧ k < L.length ∧ x = L.getD k noLab := by
  obtain ⟨i, hi, rfl⟩ := List.mem_iff_getElem.1 h
  rw [List.length_take] at hi
  exact ⟨i, by omega, by omega, by simp [List.getD, List.getElem?_eq_getElem (show i < L.length by omega)]⟩
theorem getD_mem_drop {L : List Lab} {j : Nat} {x : Lab} (h : x ∈ L.drop j) : ∃ k, j ≤ k ∧ k < L.length ∧ x = L.getD k noLab := by
  obtain ⟨i, hi, rfl⟩ := List.mem_iff_getElem.1 h
  rw [List.length_drop] at hi
  exact ⟨j + i, by omega, by omega, by simp [List.getD, List.getElem?_eq_getElem (show j + i < L.length by omega)]⟩
theorem refW_is {L : List Lab} {s v : Str} {j : Nat} (hL : Asc L) (hf : Full L) (h2 : ∀ k, k < j → s3 (L.getD k noLab).1 s < 0) (h3 : ∀ k, j ≤ k → k < L.length → ¬ s3 (L.getD k noLab).1 s < 0) :
    (refW L s v j).Perm (wthF L s v) ∧ Asc (refW L s v j) := by
  have lt : ∀ x ∈ L.take j, s3 x.1 s < 0 := fun x hx => by
    obtain ⟨k, hk, _, rfl⟩ := getD_mem_take hx
    exact h2 k hk
  have gt : ∀ x ∈ offB (L.drop j) s, s3 s x.1 < 0 := fun x hx => by
    obtain ⟨hx1, hx2⟩ := offB_mem.1 hx
    obtain ⟨k, hk, hk2, rfl⟩ := getD_mem_drop hx1
    have h4 := h3 k hk hk2
    have t := tw_s3.turn (L.getD k noLab).1 s
    have ne : s3 (L.getD k noLab).1 s ≠ 0 := fun e => hx2 ((tw_s3.same _ _).1 e)
    omega
  have eo : offB L s = L.take j ++ offB (L.drop j) s := by
    rw [← offB_off (L := L.take j) (s := s) (fun x hx e => by have := lt x hx; rw [e, s3_irr] at this; omega), ← offB_app, List.take_append_drop]
  constructor
  · rw [wthF_of s v hf, eo]
    unfold refW
    rw [List.append_assoc, List.append_assoc]
    exact List.Perm.append_left _ List.perm_append_comm
  · have a1 : Asc (L.take j) := hL.sublist (List.take_sublist _ _)
    have a3 : Asc (offB (L.drop j) s) := (hL.sublist (List.drop_sublist _ _)).filter _
    unfold refW Asc
    rw [List.pairwise_append, List.pairwise_append]
    have one : ∀ x ∈ filB [(s, v)], x.1 = s := fun x hx => by
      rw [filB_one] at hx
      split at hx
      · simp at hx
      · simp at hx; rw [hx]
    refine ⟨⟨a1, ?_, fun x hx y hy => ?_⟩, a3, fun x hx y hy => ?_⟩
    · rw [filB_one]
      split
      · exact List.Pairwise.nil
      · exact List.pairwise_singleton _ _
    · rw [one y hy]; exact lt x hx
    · rcases List.mem_append.1 hx with hx | hx
      · exact s3_trans (lt x hx) (gt y hy)
      · rw [one x hx]; exact gt y hy
theorem isEmpty_size (s : Str) : (ByteArray.toList s).isEmpty = decide (s.size = 0) := by
  rw [ByteArray.toList_eq]
  cases s with
  | mk d =>
    cases d with
    | mk l => cases l <;> simp [ByteArray.size]
theorem nameB_not {s : Str} {k : Nat} (hk : k < ByteArray.size s) (h : okc (byt s k) = false) : nameB s = false := by
  unfold nameB
  rw [Bool.and_eq_false_iff]
  right
  rw [List.all_eq_false]
  exact ⟨k, List.mem_range.2 hk, by rw [h]; simp⟩
theorem nameB_dig {s : Str} (h : isDig (byt s 0) = true) : nameB s = false := by simp [nameB, h]
end Go.Proofs.Ytfkjdibhnabkaaa
