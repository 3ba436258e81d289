/-
  A file of the reference's disk is stored.
-/
import Derived.Test.YtgbijkdfhkkieaaRK
namespace Go.Proofs.Ytgbijkdfhkkieaa
open Go.RowKit Go.Maps Go.Lib
set_option linter.unusedVariables false
set_option linter.unusedSimpArgs false
/-- A cell of a row of one's own is stored. -/
theorem owns_set {w : World} {base n sz g c i : Nat} {e : TypeId} {xs : List Value} (h : w.ownsRow base e sz (.slice (some ⟨g, 0, none⟩) n c) n xs) (u : Value) : (w.setCell ⟨g, i, none⟩ u).ownsRow base e sz (.slice (some ⟨g, 0, none⟩) n c) n (xs.set i u) := by
  refine ⟨by rw [List.length_set]; exact h.1, ?_⟩
  rcases h.2 with ⟨e1, _⟩ | ⟨g', cap, cur, e1, h2, h3, h4, h5, h6, h7⟩
  · cases e1
  · cases e1
    refine .inr ⟨g, c, cur.setIfInBounds i u, rfl, h2, heap_setCell_same w g i _ e u h3, h4, h5, by simpa using h6, ?_⟩
    rw [Array.toList_setIfInBounds, List.take_set, h7]
theorem flat2_set (L : List (Value × Value)) : ∀ (f : Nat) (p : Value × Value) (u : Value), L[f]? = some p → flat2 (L.set f (u, p.2)) = (flat2 L).set (f * 2) u ∧ flat2 (L.set f (p.1, u)) = (flat2 L).set (f * 2 + 1) u := by
  induction L with
  | nil => intro f p u h; simp at h
  | cons q L ih =>
    intro f p u h
    cases f with
    | zero => simp at h; subst h; simp [flat2]
    | succ f =>
      have := ih f p u (by simpa using h)
      rw [show (f + 1) * 2 = f * 2 + 1 + 1 by omega]
      simpa [flat2] using this
section
variable {w : World} {y : Nat} {r : RM} {I : Nat → Prop} {vF vD vS : Value} {K : Nat}
/-- A cell of the files' row is stored: one of a file's two slices. -/
theorem Rk.store (h : Rk w y r I vF vD vS) {g c i f : Nat} {p p' : Value × Value} (eF : vF = .slice (some ⟨g, 0, none⟩) r.F.length c) (hp : r.F[f]? = some p) (u : Value) (he : flat2 (r.F.set f p') = (flat2 r.F).set i u) {J : Nat → Prop} (hJ : ∀ k, I k → J k) (hJy : ¬ J y) (hJg : ¬ J g) (hJl : ∀ k, J k → k < w.heap.size) (h1 : Sl w J p'.1) (h2 : Sl w J p'.2) :
    Rk (w.setCell ⟨g, i, none⟩ u) y { r with F := r.F.set f p' } J vF vD vS ∧ But (fun x => x = g) w (w.setCell ⟨g, i, none⟩ u) := by
  subst eF
  have b := but_setCell w g i u
  have hgy : g ≠ y := (h.ik g rfl).2
  have bJ : ∀ k, J k → ¬ k = g := fun k hk e => hJg (e ▸ hk)
  refine ⟨⟨h.yb.but b (fun e => hgy e.symm), ?_, ?_, (h.dd.more hJ).but b bJ, (h.ss.more hJ).but b bJ, ?_, ?_, hJy, ?_, ?_⟩, b⟩
  · have := owns_set (i := i) h.ow u
    rw [← he] at this
    show World.ownsRow _ 0 102 2 _ (r.F.set f p').length _
    rw [List.length_set]
    exact this
  · intro x hx
    rcases List.mem_or_eq_of_mem_set hx with hx | hx
    · exact ⟨((h.fl x hx).1.more hJ).but b bJ, ((h.fl x hx).2.more hJ).but b bJ⟩
    · rw [hx]; exact ⟨h1.but b bJ, h2.but b bJ⟩
  · intro e he'
    show e.2 < (r.F.set f p').length
    rw [List.length_set]; exact h.xd e he'
  · intro e he'
    show e.2 < (r.F.set f p').length
    rw [List.length_set]; exact h.xs e he'
  · intro k hk
    have e : g = k := Option.some.inj hk
    subst e
    exact ⟨hJg, hgy⟩
  · intro k hk
    exact Nat.lt_of_lt_of_le (hJl k hk) b.size
end
end Go.Proofs.Ytgbijkdfhkkieaa
