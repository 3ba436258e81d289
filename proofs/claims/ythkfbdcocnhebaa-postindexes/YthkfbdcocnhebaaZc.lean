/-
  Rows behind several stores.
-/
import Derived.Test.YthkfbdcocnhebaaZb
import Derived.Test.YthkfbdcocnhebaaZ
namespace Go.Proofs.Ythkfbdcocnhebaa
open Go.RowKit
set_option linter.unusedVariables false
set_option linter.unusedSimpArgs false

/-- A row stays a row of its size behind stores into it; nothing else turns. -/
theorem setCells_row (g : Nat) (t : TypeId) : ∀ (vs : List Value) (o : Nat) (w : World) (cur : Array Value), w.heap[g]? = some (.cells cur t (0, 0)) →
    (∃ cur', (w.setCells g o vs).heap[g]? = some (.cells cur' t (0, 0)) ∧ cur'.size = cur.size) ∧ w.grownBy (w.setCells g o vs) (some g)
  | [], o, w, cur, h => ⟨⟨cur, h, rfl⟩, ⟨rfl, rfl, rfl, Nat.le_refl _, fun _ _ _ => rfl⟩⟩
  | v :: vs, o, w, cur, h => by
    have h1 := heap_setCell_same w g o _ t v h
    obtain ⟨⟨c2, e1, e2⟩, G⟩ := setCells_row g t vs (o + 1) (w.setCell ⟨g, o, none⟩ v) _ h1
    refine ⟨⟨c2, e1, by rw [e2]; simp⟩, ?_⟩
    exact ⟨G.os, G.tape, G.output, by have := G.size; simpa [World.setCells, World.setCell] using this, fun k hk hn => (G.block k (by simpa [World.setCell] using hk) hn).trans (Below.heap_setCell w ⟨g, o, none⟩ v k (fun e => hn (by rw [e])))⟩
end Go.Proofs.Ythkfbdcocnhebaa
