/-
  A disk with a fuse, between two calls of Create.
-/
import Derived.Test.YtgbijkdfhkkieaaTG
namespace Go.Proofs.Ytgbijkdfhkkieaa
open Go.RowKit Go.Maps Go.Lib
set_option linter.unusedVariables false
set_option linter.unusedSimpArgs false
theorem HasA.kept {w w' : World} {a : Option Addr} {n c : Nat} {A : Nat → Ac} (h : HasA w a n c A) (hb : Below w.heap.size w w') : HasA w' a n c A := by
  refine ⟨h.le, h.capb, fun hp => ?_⟩
  obtain ⟨b, off, e1, e2, e3⟩ := h.cells hp
  refine ⟨b, off, e1, Nat.lt_of_lt_of_le e2 hb.size, fun i hi => ?_⟩
  obtain ⟨⟨q0, q1, q2, q3, q4, q5⟩, hI⟩ := e3 i hi
  exact ⟨⟨(hb.cell (p := ⟨b, off + i * 6, none⟩) e2).trans q0, (hb.cell (p := ⟨b, off + i * 6 + 1, none⟩) e2).trans q1, (hb.cell (p := ⟨b, off + i * 6 + 2, none⟩) e2).trans q2, (hb.cell (p := ⟨b, off + i * 6 + 3, none⟩) e2).trans q3, (hb.cell (p := ⟨b, off + i * 6 + 4, none⟩) e2).trans q4, (hb.cell (p := ⟨b, off + i * 6 + 5, none⟩) e2).trans q5⟩, hI.kept hb⟩
theorem steps_disk {w : World} {d : Nat} {m : M} {T : Nat → Prop} (h : Disk w d m T) : Calls Try.prog 27 #[ptr d] w fun e w' => e = .returned (.int .i64 m.steps) ∧ w' = w := by
  obtain ⟨bf, bs, V, h⟩ := h
  exact steps_any h
/-- A disk that lies behind w0. -/
structure Nd (w0 w : World) (d : Nat) (m : M) (T : Nat → Prop) (k : Nat) : Prop where
  dk : Disk w d m T
  ok : Ok m k
  bl : Below w0.heap.size w0 w
  tt : ∀ x, T x → w0.heap.size ≤ x
theorem Nd.next {w0 w w' : World} {d k : Nat} {m m' : M} {T T' : Nat → Prop} {s t : ByteArray} (h : Nd w0 w d m T k) (hD : Disk w' d m' T') (hU : Up w T w' T') (hT : Tu s t m m') : Nd w0 w' d m' T' (k + 1) := by
  refine ⟨hD, h.ok.next h.dk hT, h.bl.trans ⟨hU.but.os, hU.but.tape, hU.but.output, hU.but.size, fun i hi => hU.but.block i (Nat.lt_of_lt_of_le hi h.bl.size) (fun e => by have := h.tt i e; omega)⟩, fun x hx => ?_⟩
  rcases hU.own x hx with e | e
  · exact h.tt x e
  · exact Nat.le_trans h.bl.size e
theorem Nd.below {w0 w w' : World} {d k : Nat} {m : M} {T : Nat → Prop} (h : Nd w0 w d m T k) (hb : Below w.heap.size w w') : Nd w0 w' d m T k := ⟨h.dk.below hb, h.ok, h.bl.trans (hb.mono h.bl.size), h.tt⟩
/-- How far the fuse has burnt. -/
def Fz (m : M) (was f : Int) (g : Bool) : Prop := (g = false ∧ m.gone = false ∧ 0 ≤ m.left ∧ m.left + m.steps = was + f) ∨ (g = true ∧ m.gone = true ∧ m.steps = was + f)
theorem Fz.create {m m' : M} {T : Nat → Prop} {was f r : Int} {g : Bool} {s : ByteArray} (h : Fz m was f g) (hs : nameOk s = true) (hC : Cr m T s r m') : (r = 8 ∧ Fz m' was f true) ∨ (g = false ∧ (r = 0 ∨ r = 6) ∧ Fz m' was f false) := by
  rcases h with ⟨rfl, hg, hl, hst⟩ | ⟨rfl, hg, hst⟩
  · by_cases h0 : m.left = 0
    · have e : pw m = { m with gone := true } := if_pos h0
      have hgo : (pw m).gone = true := by rw [e]
      rcases hC with ⟨h, _⟩ | ⟨_, _, rfl, rfl⟩ | ⟨_, h, _⟩ | ⟨_, h, _⟩
      · rw [hs] at h; cases h
      · exact .inl ⟨rfl, .inr ⟨rfl, hgo, by rw [e]; show m.steps = _; omega⟩⟩
      · rw [hgo] at h; cases h
      · rw [hgo] at h; cases h
    · have e : pw m = m := if_neg h0
      rcases hC with ⟨h, _⟩ | ⟨_, h, _⟩ | ⟨_, _, _, rfl, rfl⟩ | ⟨_, _, _, rfl, x, _, _, rfl⟩
      · rw [hs] at h; cases h
      · rw [e, hg] at h; cases h
      · rw [e]; exact .inr ⟨rfl, .inr rfl, .inl ⟨rfl, hg, hl, hst⟩⟩
      · refine .inr ⟨rfl, .inl rfl, .inl ⟨rfl, ?_, ?_, ?_⟩⟩
        · show (pw m).gone = false
          rw [e]; exact hg
        · unfold crt dn
          simp only [e]
          split <;> omega
        · unfold crt dn
          simp only [e]
          split <;> omega
  · have hgo : (pw m).gone = true := by unfold pw; split <;> first | rfl | exact hg
    have hps : (pw m).steps = m.steps := (pw_same m).2.2.2.2.2.2.1
    rcases hC with ⟨h, _⟩ | ⟨_, _, rfl, rfl⟩ | ⟨_, h, _⟩ | ⟨_, h, _⟩
    · rw [hs] at h; cases h
    · exact .inl ⟨rfl, .inr ⟨rfl, hgo, by rw [hps]; exact hst⟩⟩
    · rw [hgo] at h; cases h
    · rw [hgo] at h; cases h
end Go.Proofs.Ytgbijkdfhkkieaa
