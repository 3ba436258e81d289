/-
  clear of a row of labels; CompactFunc of labels, of which only this is said: that it ends, and leaves labels.
-/
import Derived.Test.YtfkjdibhnabkaaaAG
import Derived.Laws.IdiomCopy
namespace Go.Proofs.Ytfkjdibhnabkaaa
open Go.RowKit Go.Shelf Go.Lib
set_option linter.unusedVariables false
set_option linter.unusedSimpArgs false

theorem RowS.sets {g n : Nat} : ∀ (vs : List Value) (o : Nat) (w : World), RowS w g n → (∀ v ∈ vs, ∃ s, v = .string s) → RowS (w.setCells g o vs) g n
  | [], _, _, h, _ => h
  | v :: r, o, w, h, hv => by
    obtain ⟨s, rfl⟩ := hv v (by simp)
    exact RowS.sets r (o + 1) _ (h.set o s) (fun v hv' => hv v (by simp [hv']))
theorem below_sets {g base : Nat} {w0 : World} (hg : base ≤ g) : ∀ (vs : List Value) (o : Nat) (w : World), Below base w0 w → Below base w0 (w.setCells g o vs)
  | [], _, _, h => h
  | v :: r, o, w, h => below_sets hg r (o + 1) _ (h.setCell (p := ⟨g, o, none⟩) hg v)

theorem run_clear (w : World) (g n m o cap : Nat) (h : RowS w g n) (hm : 0 < m) (ho : o + 2 * m ≤ 2 * n) :
    ∃ w', (Builtin.clear_ #[23] 0 #[.slice (some ⟨g, o, none⟩) m cap]).run Try.prog w = .ok (.tuple #[]) w' ∧ RowS w' g n ∧ ∀ base w0, base ≤ g → Below base w0 w → Below base w0 w' := by
  have hz := zero39
  have hu := Try.underlying23
  obtain ⟨vs, hvs⟩ : ∃ vs, (Builtin.zeroCells #[Value.string ByteArray.empty, Value.string ByteArray.empty] m).toList = vs := ⟨_, rfl⟩
  have hl : vs.length = m * 2 := by rw [← hvs, Array.length_toList, size_zeroCells]; rfl
  have hs : ∀ v ∈ vs, ∃ s, v = .string s := by
    intro v hv
    rw [← hvs] at hv
    simp only [Builtin.zeroCells, Array.toList_map, List.mem_map] at hv
    obtain ⟨i, _, rfl⟩ := hv
    rcases Nat.mod_two_eq_zero_or_one i with e | e
    · exact ⟨ByteArray.empty, by simp [e]⟩
    · exact ⟨ByteArray.empty, by simp [e]⟩
  have hst := run_storeCells_cells (P := Try.prog) g o vs 0 w (fun j hj => by obtain ⟨⟨s, e⟩, _⟩ := h.2 (o + 0 + j) (by omega); rw [e]; rfl) (fun j hj => (h.2 (o + 0 + j) (by omega)).2) (fun v hv => by obtain ⟨s, rfl⟩ := hs v hv; rfl)
  refine ⟨w.setCells g o vs, ?_, h.sets vs o w hs, fun base w0 hb hB => below_sets hb vs o w hB⟩
  obtain ⟨m', rfl⟩ : ∃ m', m = m' + 1 := ⟨m - 1, by omega⟩
  simp [Builtin.clear_, run_underlying hu, hz, hvs, go_sem, hst]
end Go.Proofs.Ytfkjdibhnabkaaa
