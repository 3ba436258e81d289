/-
  A writer of the program beside one of the reference.
-/
import Derived.Test.YtpopkoedeckfoaaDoorSL
import Derived.Test.YtpopkoedeckfoaaDoorSJ
namespace Go.Proofs.YtpopkoedeckfoaaDoor
open Go.RowKit
set_option linter.unusedVariables false
set_option linter.unusedSimpArgs false

structure TW (w0 w : World) (base p : Nat) (v : Value) (A k r : Nat) (u : Value) (M : List Bool) : Prop where
  wr : Wr w base p v A k
  rw : RW w base r u M
  dis : Dis p v r u
  t : Tab w
  bel : Below base w0 w
  b0 : 0 < base
section
variable {w0 w w' : World} {base p A k r A' k' : Nat} {v u v' u' : Value} {M M' : List Bool}
theorem TW.below (h : TW w0 w base p v A k r u M) (hb : Below w.heap.size w w') : TW w0 w' base p v A k r u M :=
  ⟨h.wr.below hb (Nat.le_refl _), h.rw.below hb (Nat.le_refl _), h.dis, h.t.kept hb h.t.pos, h.bel.trans (hb.mono (by have := h.wr.lt; omega)), h.b0⟩
theorem TW.put1 (h : TW w0 w base p v A k r u M) (d : Did w w' base p v v') (hw : Wr w' base p v' A' k') : TW w0 w' base p v' A' k' r u M :=
  ⟨hw, (d.rw h.dis h.rw).1, (d.rw h.dis h.rw).2, h.t.kept d.bel h.b0, h.bel.trans d.bel, h.b0⟩
theorem TW.put2 (h : TW w0 w base p v A k r u M) (d : Did w w' base r u u') (hw : RW w' base r u' M') : TW w0 w' base p v A k r u' M' :=
  ⟨(d.wr h.dis.symm h.wr).1, hw, (d.wr h.dis.symm h.wr).2.symm, h.t.kept d.bel h.b0, h.bel.trans d.bel, h.b0⟩
theorem TW.drew (h : TW w0 w base p v A k r u M) : TW w0 w.drew base p v A k r u M := ⟨h.wr.drew, h.rw.drew, h.dis, h.t, ⟨h.bel.os, h.bel.tape, h.bel.output, h.bel.size, h.bel.block⟩, h.b0⟩
theorem TW.start {w0 w : World} {base p : Nat} (h : Wr w base p (.slice none 0 0) 0 0) (hT : Tab w) (hb : Below base w0 w) (hb0 : 0 < base) : TW w0 (w.alloc (.cells #[.slice none 0 0] 29)) base p (.slice none 0 0) 0 0 w.heap.size (.slice none 0 0) [] := by
  have B : Below w.heap.size w (w.alloc (.cells #[.slice none 0 0] 29)) := (Below.refl _ _).alloc (Nat.le_refl _) _
  have hl := h.lt
  refine ⟨h.below B (Nat.le_refl _), ⟨heap_alloc_new w _, by omega, World.ownsRow_nil _ _ _ _, by simp [Value.ownBlock]⟩, h.dis (fun k hk => ?_), hT.kept B hT.pos, hb.trans (B.mono (by omega)), hb0⟩
  rcases hk with rfl | hk
  · exact Nat.le_refl _
  · cases hk
end
end Go.Proofs.YtpopkoedeckfoaaDoor
