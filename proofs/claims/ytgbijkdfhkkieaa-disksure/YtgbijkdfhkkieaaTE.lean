/-
  Acts in memory; a disk behind acts ('played').
-/
import Derived.Test.YtgbijkdfhkkieaaTD
import Derived.Test.YtgbijkdfhkkieaaI
namespace Go.Proofs.Ytgbijkdfhkkieaa
open Go.RowKit Go.Maps Go.Lib Go.ChangeShapes Go.WideShapes Go.ChangeAt
set_option linter.unusedVariables false
set_option linter.unusedSimpArgs false
/-- An act's parts. -/
structure Ac where
  dO : Int
  n : Int
  sN : ByteArray
  sT : ByteArray
  aB : Option Addr
  lB : Nat
  cB : Nat
  aP : Option Addr
  lP : Nat
  cP : Nat
def noAc : Ac := ⟨0, 0, ByteArray.empty, ByteArray.empty, none, 0, 0, none, 0, 0⟩
instance : Inhabited Ac := ⟨noAc⟩
/-- What an act is. -/
structure IsAc (w : World) (c : Ac) : Prop where
  d : -9223372036854775808 ≤ c.dO ∧ c.dO ≤ 9223372036854775807
  n : -9223372036854775808 ≤ c.n ∧ c.n ≤ 9223372036854775807
  b : ∃ l, Has w c.aB c.lB c.cB l
  p : ∃ l, Hi w c.aP c.lP c.cP l
/-- In the world w the slice has the acts A. -/
structure HasA (w : World) (a : Option Addr) (len cap : Nat) (A : Nat → Ac) : Prop where
  le : len ≤ cap
  capb : cap ≤ maxLen
  cells : 0 < len → ∃ b off, a = some ⟨b, off, none⟩ ∧ b < w.heap.size ∧ ∀ i, i < len → (w.cell? ⟨b, off + i * 6, none⟩ = some (.int .i64 (A i).dO) ∧ w.cell? ⟨b, off + i * 6 + 1, none⟩ = some (.int .i64 (A i).n) ∧ w.cell? ⟨b, off + i * 6 + 2, none⟩ = some (.string (A i).sN) ∧ w.cell? ⟨b, off + i * 6 + 3, none⟩ = some (.string (A i).sT) ∧ w.cell? ⟨b, off + i * 6 + 4, none⟩ = some (.slice (A i).aB (A i).lB (A i).cB) ∧ w.cell? ⟨b, off + i * 6 + 5, none⟩ = some (.slice (A i).aP (A i).lP (A i).cP)) ∧ IsAc w (A i)
theorem IsAc.kept {w w' : World} {c : Ac} (h : IsAc w c) (hb : Below w.heap.size w w') : IsAc w' c := by
  obtain ⟨l, hl⟩ := h.b
  obtain ⟨p, hp⟩ := h.p
  exact ⟨h.d, h.n, ⟨l, hl.kept hb (Nat.le_refl _)⟩, ⟨p, Hi.kept hp hb (Nat.le_refl _)⟩⟩
theorem bytes_of {H : Type} {enc : TypeId × Value → H} {W : World} {base fuel : Nat} {v : Value} {x : DataW H × List MemPlace} (h : DataW.trod enc Try.prog W base (fun _ => true) true fuel 23 [v] = some x) : ∃ a len cap l, v = .slice a len cap ∧ Has W a len cap l := by
  rcases open_ints Try.underlying23 Try.underlying5 (by kernel_rfl) h with ⟨hcs, _⟩ | ⟨x, l, c, zs, hcs, _, hl, hm, hz, _, hcell, hwz⟩
  · simp at hcs
    exact ⟨none, 0, 0, [], hcs, has_nil W⟩
  · simp at hcs
    subst hcs
    simp at hz
    refine ⟨some x, l, c, zs.take l, rfl, by simp; omega, hl, hm, (fun h => by cases h), fun hp => ?_, fun n hn => wf_u8 (hwz n (List.mem_of_mem_take hn))⟩
    obtain ⟨b, off, spot⟩ := x
    have hc := hcell 0 (by omega)
    have hspot : spot = none := by simpa [Addr.add] using World.cell?_spot hc
    subst hspot
    refine ⟨b, off, rfl, ?_, fun i hi => ?_⟩
    · have := World.block_lt_of_cell? W _ hc
      rwa [add_plain] at this
    · have := hcell i (by omega)
      rw [add_plain] at this
      rw [this]
      simp [List.getD, hi]
theorem ints_of {H : Type} {enc : TypeId × Value → H} {W : World} {base fuel : Nat} {v : Value} {x : DataW H × List MemPlace} (h : DataW.trod enc Try.prog W base (fun _ => true) true fuel 24 [v] = some x) : ∃ a len cap l, v = .slice a len cap ∧ Hi W a len cap l := by
  rcases open_ints Try.underlying24 Try.underlying3 (by kernel_rfl) h with ⟨hcs, _⟩ | ⟨x, l, c, zs, hcs, _, hl, hm, hz, _, hcell, hwz⟩
  · simp at hcs
    exact ⟨none, 0, 0, [], hcs, hi_nil W⟩
  · simp at hcs
    subst hcs
    simp at hz
    refine ⟨some x, l, c, zs.take l, rfl, by simp; omega, hl, hm, (fun h => by cases h), fun hp => ?_, fun n hn => wf_i64 (hwz n (List.mem_of_mem_take hn))⟩
    obtain ⟨b, off, spot⟩ := x
    have hc := hcell 0 (by omega)
    have hspot : spot = none := by simpa [Addr.add] using World.cell?_spot hc
    subst hspot
    refine ⟨b, off, rfl, ?_, fun i hi => ?_⟩
    · have := World.block_lt_of_cell? W _ hc
      rwa [add_plain] at this
    · have := hcell i (by omega)
      rw [add_plain] at this
      rw [this]
      simp [List.getD, hi]
theorem six {cs : List Value} (h : cs.length = 6) : ∃ v0 v1 v2 v3 v4 v5, cs = [v0, v1, v2, v3, v4, v5] := by
  match cs, h with
  | [v0, v1, v2, v3, v4, v5], _ => exact ⟨v0, v1, v2, v3, v4, v5, rfl⟩
theorem came_acts {H : Type} {enc : TypeId × Value → H} {W : World} {base : Nat} {a : Option Addr} {len cap : Nat} {d : DataW H} {p : List MemPlace} (h : DataW.Trod enc Try.prog W base (fun _ => true) true 22 (.slice a len cap) d p) : ∃ A, HasA W a len cap A := by
  obtain ⟨fuel, hf⟩ := h
  rcases Go.Deep.open_slice Try.underlying22 hf with ⟨hcs, _⟩ | ⟨x, l, c, m, n, D, Pl, hcs, _, hl, hm, hmm, _, hx⟩
  · simp [Value.cells] at hcs
    obtain ⟨rfl, rfl, rfl⟩ := hcs
    exact ⟨fun _ => noAc, Nat.le_refl _, Nat.zero_le _, fun h => by omega⟩
  · simp [Value.cells] at hcs
    obtain ⟨rfl, rfl, rfl⟩ := hcs
    simp at hmm
    have ce : Try.prog.cellsOf 36 = 6 := by kernel_rfl
    have c3 : Try.prog.cellsOf 3 = 1 := by kernel_rfl
    have c9 : Try.prog.cellsOf 9 = 1 := by kernel_rfl
    have c23 : Try.prog.cellsOf 23 = 1 := by kernel_rfl
    have c24 : Try.prog.cellsOf 24 = 1 := by kernel_rfl
    have key : ∀ i, i < len → ∃ q : Ac, (W.cell? (x.add (i * 6)) = some (.int .i64 q.dO) ∧ W.cell? (x.add (i * 6 + 1)) = some (.int .i64 q.n) ∧ W.cell? (x.add (i * 6 + 2)) = some (.string q.sN) ∧ W.cell? (x.add (i * 6 + 3)) = some (.string q.sT) ∧ W.cell? (x.add (i * 6 + 4)) = some (.slice q.aB q.lB q.cB) ∧ W.cell? (x.add (i * 6 + 5)) = some (.slice q.aP q.lP q.cP)) ∧ IsAc W q := by
      intro i hi
      obtain ⟨cs', h1, h2⟩ := hx i (by omega)
      rw [ce] at h1
      obtain ⟨_, hlen, hcell⟩ := World.cells?_some h1
      obtain ⟨xs, k, hk, hxy, _, hxl, hfl⟩ := DataW.trod_struct Try.underlying36 h2
      obtain ⟨v0, v1, v2, v3, v4, v5, rfl⟩ := six hlen
      have g0 := hfl 0 { name := "Do", type := 3, offset := 0, embedded := false, tag := "", pkgPath := "", byteOffset := 0 } rfl
      have g1 := hfl 1 { name := "N", type := 3, offset := 1, embedded := false, tag := "", pkgPath := "", byteOffset := 8 } rfl
      have g2 := hfl 2 { name := "Name", type := 9, offset := 2, embedded := false, tag := "", pkgPath := "", byteOffset := 16 } rfl
      have g3 := hfl 3 { name := "To", type := 9, offset := 3, embedded := false, tag := "", pkgPath := "", byteOffset := 32 } rfl
      have g4 := hfl 4 { name := "B", type := 23, offset := 4, embedded := false, tag := "", pkgPath := "", byteOffset := 48 } rfl
      have g5 := hfl 5 { name := "Picks", type := 24, offset := 5, embedded := false, tag := "", pkgPath := "", byteOffset := 72 } rfl
      dsimp only at g0 g1 g2 g3 g4 g5
      rw [c3] at g0 g1
      rw [c9] at g2 g3
      rw [c23] at g4
      rw [c24] at g5
      have y0 : ∃ z, DataW.trod enc Try.prog W base (fun _ => true) true k 3 [v0] = some z := ⟨_, g0.trans (List.getElem?_eq_getElem (by rw [hxl]; decide))⟩
      have y1 : ∃ z, DataW.trod enc Try.prog W base (fun _ => true) true k 3 [v1] = some z := ⟨_, g1.trans (List.getElem?_eq_getElem (by rw [hxl]; decide))⟩
      have y2 : ∃ z, DataW.trod enc Try.prog W base (fun _ => true) true k 9 [v2] = some z := ⟨_, g2.trans (List.getElem?_eq_getElem (by rw [hxl]; decide))⟩
      have y3 : ∃ z, DataW.trod enc Try.prog W base (fun _ => true) true k 9 [v3] = some z := ⟨_, g3.trans (List.getElem?_eq_getElem (by rw [hxl]; decide))⟩
      have y4 : ∃ z, DataW.trod enc Try.prog W base (fun _ => true) true k 23 [v4] = some z := ⟨_, g4.trans (List.getElem?_eq_getElem (by rw [hxl]; decide))⟩
      have y5 : ∃ z, DataW.trod enc Try.prog W base (fun _ => true) true k 24 [v5] = some z := ⟨_, g5.trans (List.getElem?_eq_getElem (by rw [hxl]; decide))⟩
      obtain ⟨z0, y0⟩ := y0
      obtain ⟨z1, y1⟩ := y1
      obtain ⟨z2, y2⟩ := y2
      obtain ⟨z3, y3⟩ := y3
      obtain ⟨z4, y4⟩ := y4
      obtain ⟨z5, y5⟩ := y5
      obtain ⟨a0, e0, _, f0⟩ := DataW.trod_int Try.underlying3 y0
      obtain ⟨a1, e1, _, f1⟩ := DataW.trod_int Try.underlying3 y1
      obtain ⟨s2, e2, _⟩ := DataW.trod_string Try.underlying9 y2
      obtain ⟨s3, e3, _⟩ := DataW.trod_string Try.underlying9 y3
      obtain ⟨aB, lB, cB, L4, e4, h4⟩ := bytes_of y4
      obtain ⟨aP, lP, cP, L5, e5, h5⟩ := ints_of y5
      have q0 := hcell 0 (by omega)
      have q1 := hcell 1 (by omega)
      have q2 := hcell 2 (by omega)
      have q3 := hcell 3 (by omega)
      have q4 := hcell 4 (by omega)
      have q5 := hcell 5 (by omega)
      rw [Go.Deep.add_add] at q0 q1 q2 q3 q4 q5
      simp only [List.cons.injEq, and_true] at e0 e1 e2 e3
      subst e0 e1 e2 e3 e4 e5
      exact ⟨⟨a0, a1, s2, s3, aB, lB, cB, aP, lP, cP⟩, ⟨q0, q1, q2, q3, q4, q5⟩, wf_i64 f0, wf_i64 f1, ⟨L4, h4⟩, ⟨L5, h5⟩⟩
    obtain ⟨Q, hQ⟩ := Go.Deep.choose_lt key
    refine ⟨Q, hl, hm, fun hp => ?_⟩
    obtain ⟨b, off, spot⟩ := x
    have hc := (hQ 0 hp).1.1
    have hspot : spot = none := by simpa [Addr.add] using World.cell?_spot hc
    subst hspot
    refine ⟨b, off, rfl, ?_, fun i hi => ?_⟩
    · have := World.block_lt_of_cell? W _ hc
      rwa [add_plain] at this
    · have := hQ i hi
      simp only [add_plain] at this
      exact this
end Go.Proofs.Ytgbijkdfhkkieaa
