/-
  Acts in memory.
-/
import Derived.Test.YthkfbdcocnhebaaAr
import Derived.Test.YthkfbdcocnhebaaK
namespace Go.Proofs.Ythkfbdcocnhebaa
open Go.RowKit Go.ChangeShapes Go.WideShapes Go.ChangeAt
set_option linter.unusedVariables false
set_option linter.unusedSimpArgs false

/-- An act's parts. -/
structure ActP where
  dO : Int
  key : ByteArray
  n : Int
def noActP : ActP := ⟨0, ByteArray.empty, 0⟩
instance : Inhabited ActP := ⟨noActP⟩
structure IsActP (c : ActP) : Prop where
  d : -9223372036854775808 ≤ c.dO ∧ c.dO ≤ 9223372036854775807
  k : c.key.size ≤ maxLen
  n : 0 ≤ c.n ∧ c.n < 18446744073709551616
/-- In the world w the slice has the acts A. -/
structure HasA (w : World) (a : Option Addr) (len cap : Nat) (A : Nat → ActP) : Prop where
  le : len ≤ cap
  capb : cap ≤ maxLen
  cells : 0 < len → ∃ b off, a = some ⟨b, off, none⟩ ∧ b < w.heap.size ∧ ∀ i, i < len → (w.cell? ⟨b, off + i * 3, none⟩ = some (.int .i64 (A i).dO) ∧ w.cell? ⟨b, off + i * 3 + 1, none⟩ = some (.string (A i).key) ∧ w.cell? ⟨b, off + i * 3 + 2, none⟩ = some (.int .u64 (A i).n)) ∧ IsActP (A i)
theorem three {cs : List Value} (h : cs.length = 3) : ∃ v0 v1 v2, cs = [v0, v1, v2] := by
  match cs, h with
  | [v0, v1, v2], _ => exact ⟨v0, v1, v2, rfl⟩
theorem came_acts {H : Type} {enc : TypeId × Value → H} {W : World} {base : Nat} {a : Option Addr} {len cap : Nat} {d : DataW H} {p : List MemPlace} (h : DataW.Trod enc Try.prog W base (fun _ => true) true 44 (.slice a len cap) d p) : ∃ A, HasA W a len cap A := by
  obtain ⟨fuel, hf⟩ := h
  rcases Go.Deep.open_slice Try.underlying44 hf with ⟨hcs, _⟩ | ⟨x, l, c, m, n, D, Pl, hcs, _, hl, hm, hmm, _, hx⟩
  · simp [Value.cells] at hcs
    obtain ⟨rfl, rfl, rfl⟩ := hcs
    exact ⟨fun _ => noActP, Nat.le_refl _, Nat.zero_le _, fun h => by omega⟩
  · simp [Value.cells] at hcs
    obtain ⟨rfl, rfl, rfl⟩ := hcs
    simp at hmm
    have ce : Try.prog.cellsOf 52 = 3 := by kernel_rfl
    have c3 : Try.prog.cellsOf 3 = 1 := by kernel_rfl
    have c9 : Try.prog.cellsOf 9 = 1 := by kernel_rfl
    have c24 : Try.prog.cellsOf 24 = 1 := by kernel_rfl
    have key : ∀ i, i < len → ∃ q : ActP, (W.cell? (x.add (i * 3)) = some (.int .i64 q.dO) ∧ W.cell? (x.add (i * 3 + 1)) = some (.string q.key) ∧ W.cell? (x.add (i * 3 + 2)) = some (.int .u64 q.n)) ∧ IsActP q := by
      intro i hi
      obtain ⟨cs', h1, h2⟩ := hx i (by omega)
      rw [ce] at h1
      obtain ⟨_, hlen, hcell⟩ := World.cells?_some h1
      obtain ⟨xs, k, hk, hxy, _, hxl, hfl⟩ := DataW.trod_struct Try.underlying52 h2
      obtain ⟨v0, v1, v2, rfl⟩ := three hlen
      have g0 := hfl 0 { name := "Do", type := 3, offset := 0, embedded := false, tag := "", pkgPath := "", byteOffset := 0 } rfl
      have g1 := hfl 1 { name := "Key", type := 9, offset := 1, embedded := false, tag := "", pkgPath := "", byteOffset := 8 } rfl
      have g2 := hfl 2 { name := "N", type := 24, offset := 2, embedded := false, tag := "", pkgPath := "", byteOffset := 24 } rfl
      dsimp only at g0 g1 g2
      rw [c3] at g0
      rw [c9] at g1
      rw [c24] at g2
      have y0 : ∃ z, DataW.trod enc Try.prog W base (fun _ => true) true k 3 [v0] = some z := ⟨_, g0.trans (List.getElem?_eq_getElem (by rw [hxl]; decide))⟩
      have y1 : ∃ z, DataW.trod enc Try.prog W base (fun _ => true) true k 9 [v1] = some z := ⟨_, g1.trans (List.getElem?_eq_getElem (by rw [hxl]; decide))⟩
      have y2 : ∃ z, DataW.trod enc Try.prog W base (fun _ => true) true k 24 [v2] = some z := ⟨_, g2.trans (List.getElem?_eq_getElem (by rw [hxl]; decide))⟩
      obtain ⟨z0, y0⟩ := y0
      obtain ⟨z1, y1⟩ := y1
      obtain ⟨z2, y2⟩ := y2
      obtain ⟨a0, e0, _, f0⟩ := DataW.trod_int Try.underlying3 y0
      obtain ⟨s1, e1, _, f1⟩ := DataW.trod_string Try.underlying9 y1
      obtain ⟨a2, e2, _, f2⟩ := DataW.trod_int Try.underlying24 y2
      have q0 := hcell 0 (by omega)
      have q1 := hcell 1 (by omega)
      have q2 := hcell 2 (by omega)
      rw [Go.Deep.add_add] at q0 q1 q2
      simp only [List.cons.injEq, and_true] at e0 e1 e2
      subst e0 e1 e2
      exact ⟨⟨a0, s1, a2⟩, ⟨q0, q1, q2⟩, wf_i64 f0, by first | exact f1 | simpa using f1 | exact f1.1, wf_u64 f2⟩
    obtain ⟨Q, hQ⟩ := Go.Deep.choose_lt key
    refine ⟨Q, hl, hm, fun hp => ?_⟩
    obtain ⟨b, off, spot⟩ := x
    have hc := (hQ 0 hp).1.1
    have hspot : spot = none := by simpa [Addr.add] using World.cell?_spot hc
    subst hspot
    refine ⟨b, off, rfl, ?_, fun i hi => ?_⟩
    · have := World.block_lt_of_cell? W _ hc
      rwa [add_plain] at this
    · have := hQ i hi
      simp only [add_plain] at this
      exact this
end Go.Proofs.Ythkfbdcocnhebaa
