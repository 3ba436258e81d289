/-
  What is read of what was put, and what was read as it is put.
-/
import Derived.Test.YtlmpndmceiihaaaBD
namespace Go.Proofs.Ytlmpndmceiihaaa
open Go.RowKit Go.Shelf Go.Lib
set_option linter.unusedVariables false
set_option linter.unusedSimpArgs false

theorem read_put {M : List Int} {L : List Lab} (hc : chkB L = true) {e : Ending} {w' : World} {n' : Nat} (hn : (M ++ V.bytesL L).length = n') {t : Nat} (ht : M.length = t) (h : ReadS (M ++ V.bytesL L) t e w') :
    ∃ a' c', e = .returned (.tuple #[.slice a' L.length c', .int .i64 (n' : Int), .int .i64 0]) ∧ HasB w' a' L.length c' L := by
  subst ht
  have h16 := (chk_len16 hc).2
  have e1 : V.rn ((M ++ V.bytesL L).drop M.length) = some (L.length, (V.enc L.length).length) := by
    rw [List.drop_left]
    exact V.rn_enc _ _ (by omega)
  have e2 : V.rls L.length ((M ++ V.bytesL L).drop (M.length + (V.enc L.length).length)) = some (L, (V.lbs L).length) := by
    rw [← List.drop_drop, List.drop_left, V.bytesL, List.drop_left]
    have := V.rls_lbs L [] (fun x hx => by have := lab_sizes hc x hx; omega)
    rwa [List.append_nil] at this
  rcases h with ⟨n, k, X, m, h1, h2, h3, a', c', rfl, H⟩ | ⟨hno, _⟩
  · rw [e1] at h1
    cases h1
    rw [e2] at h2
    cases h2
    refine ⟨a', c', ?_, H⟩
    rw [← hn]
    simp only [V.bytesL, List.length_append, Nat.add_assoc]
  · have := hno _ _ _ _ e1 e2
    rw [hc] at this
    cases this
theorem put_read {l : List Int} (hb : ∀ x ∈ l, 0 ≤ x ∧ x ≤ 255) {e : Ending} {w' : World} (h : ReadS l 0 e w') :
    (∃ X q a' c', chkB X = true ∧ q ≤ l.length ∧ l.take q = V.bytesL X ∧ e = .returned (.tuple #[.slice a' X.length c', .int .i64 (q : Int), .int .i64 0]) ∧ HasB w' a' X.length c' X) ∨ (∃ m : Int, m ≠ 0 ∧ e = .returned (.tuple #[.slice none 0 0, .int .i64 0, .int .i64 m])) := by
  rcases h with ⟨n, k, X, m, h1, h2, h3, a', c', rfl, H⟩ | ⟨_, h⟩
  · rw [List.drop_zero] at h1
    rw [Nat.zero_add] at h2
    obtain ⟨f1, f2, f3, f4⟩ := V.enc_rn hb h1
    obtain ⟨g1, g2, g3, g4⟩ := V.lbs_rls n (l.drop k) (fun x hx => hb x (List.mem_of_mem_drop hx)) X m h2
    rw [List.length_drop] at g3
    refine .inl ⟨X, k + m, a', c', h3, by omega, ?_, by rw [Nat.zero_add], H⟩
    rw [List.take_add, f1, g2, V.bytesL, g1]
  · exact .inr h
end Go.Proofs.Ytlmpndmceiihaaa
