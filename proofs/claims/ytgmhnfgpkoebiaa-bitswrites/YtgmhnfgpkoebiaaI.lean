/-
  What the rows of this seat share: how arguments are opened.
-/
import Derived.Test.YtgmhnfgpkoebiaaRows
import Derived.Test.YtgmhnfgpkoebiaaG
import Derived.ProofKit
import Derived.OpenShut
import Derived.Deep.SlicePairs
namespace Go.Proofs.Ytgmhnfgpkoebiaa
open Go.ChangeShapes Go.WideShapes Go.ChangeAt Go.RowKit
set_option linter.unusedVariables false

theorem own : ownKnob Try.prog.godebug = none := by kernel_rfl
theorem laidOut : laidOutB Try.prog = true := by kernel_rfl
theorem wf_u64 {a : Int} (h : (Lit.int .u64 a).wf = true) : 0 ≤ a ∧ a < 18446744073709551616 := by
  simp [Lit.wf, IntKind.min, IntKind.max, IntKind.signed, IntKind.bits] at h; omega
theorem wf_i64 {a : Int} (h : (Lit.int .i64 a).wf = true) : -9223372036854775808 ≤ a ∧ a ≤ 9223372036854775807 := by
  simp [Lit.wf, IntKind.min, IntKind.max, IntKind.signed, IntKind.bits] at h; omega
theorem wf_u8 {a : Int} (h : (Lit.int .u8 a).wf = true) : 0 ≤ a ∧ a ≤ 255 := by
  simp [Lit.wf, IntKind.min, IntKind.max, IntKind.signed, IntKind.bits] at h; omega

/-- A slice of numbers in memory. -/
structure HasI (w : World) (a : Option Addr) (len cap : Nat) (l : List Int) : Prop where
  hlen : l.length = len
  le : len ≤ cap
  capb : cap ≤ maxLen
  cells : 0 < len → ∃ b off, a = some ⟨b, off, none⟩ ∧ b < w.heap.size ∧ ∀ i, i < len → w.cell? ⟨b, off + i, none⟩ = some (.int .i64 (l.getD i 0))
  range : ∀ x ∈ l, -9223372036854775808 ≤ x ∧ x ≤ 9223372036854775807
theorem HasI.kept {w w' : World} {a : Option Addr} {len cap : Nat} {l : List Int} {B : Nat} (h : HasI w a len cap l) (hb : Below B w w') (hB : w.heap.size ≤ B) : HasI w' a len cap l := by
  refine ⟨h.hlen, h.le, h.capb, fun hp => ?_, h.range⟩
  obtain ⟨b, off, e1, e2, e3⟩ := h.cells hp
  exact ⟨b, off, e1, Nat.lt_of_lt_of_le e2 hb.size, fun i hi => (hb.cell (p := ⟨b, off + i, none⟩) (Nat.lt_of_lt_of_le e2 hB)).trans (e3 i hi)⟩
/-- A slice of numbers, each with a number of bits. -/
structure HasP (w : World) (a : Option Addr) (len cap : Nat) (l : List (Nat × Int)) : Prop where
  hlen : l.length = len
  le : len ≤ cap
  capb : cap ≤ maxLen
  cells : 0 < len → ∃ b off, a = some ⟨b, off, none⟩ ∧ b < w.heap.size ∧ ∀ i, i < len → w.cell? ⟨b, off + i * 2, none⟩ = some (.int .u64 ((l.getD i (0, 0)).1 : Int)) ∧ w.cell? ⟨b, off + i * 2 + 1, none⟩ = some (.int .i64 (l.getD i (0, 0)).2)
  range : ∀ x ∈ l, x.1 < 18446744073709551616 ∧ -9223372036854775808 ≤ x.2 ∧ x.2 ≤ 9223372036854775807
theorem HasP.kept {w w' : World} {a : Option Addr} {len cap : Nat} {l : List (Nat × Int)} {B : Nat} (h : HasP w a len cap l) (hb : Below B w w') (hB : w.heap.size ≤ B) : HasP w' a len cap l := by
  refine ⟨h.hlen, h.le, h.capb, fun hp => ?_, h.range⟩
  obtain ⟨b, off, e1, e2, e3⟩ := h.cells hp
  exact ⟨b, off, e1, Nat.lt_of_lt_of_le e2 hb.size, fun i hi => ⟨(hb.cell (p := ⟨b, off + i * 2, none⟩) (Nat.lt_of_lt_of_le e2 hB)).trans (e3 i hi).1, (hb.cell (p := ⟨b, off + i * 2 + 1, none⟩) (Nat.lt_of_lt_of_le e2 hB)).trans (e3 i hi).2⟩⟩

theorem came_bytes {H : Type} {enc : TypeId × Value → H} {W : World} {base : Nat} {a : Option Addr} {len cap : Nat} {d : DataW H} {p : List MemPlace} (h : DataW.Trod enc Try.prog W base (fun _ => true) true 36 (.slice a len cap) d p) : ∃ l, Has W a len cap l := by
  obtain ⟨fuel, hf⟩ := h
  rcases open_ints Try.underlying36 Try.underlying5 (by kernel_rfl) hf with ⟨hcs, _⟩ | ⟨x, l, c, zs, hcs, _, hl, hm, hz, _, hcell, hwz⟩
  · simp [Value.cells] at hcs
    obtain ⟨rfl, rfl, rfl⟩ := hcs
    exact ⟨_, has_nil W⟩
  · simp [Value.cells] at hcs
    obtain ⟨rfl, rfl, rfl⟩ := hcs
    simp at hz
    refine ⟨zs.take len, by simp; omega, hl, hm, (fun h => by cases h), fun hp => ?_, fun n hn => wf_u8 (hwz n (List.mem_of_mem_take hn))⟩
    obtain ⟨b, off, spot⟩ := x
    have hc := hcell 0 (by omega)
    have hspot : spot = none := by simpa [Addr.add] using World.cell?_spot hc
    subst hspot
    refine ⟨b, off, rfl, ?_, fun i hi => ?_⟩
    · have := World.block_lt_of_cell? W _ hc
      rwa [add_plain] at this
    · have := hcell i (by omega)
      rw [add_plain] at this
      rw [this]
      simp [List.getD, hi]
theorem came_ints {H : Type} {enc : TypeId × Value → H} {W : World} {base : Nat} {a : Option Addr} {len cap : Nat} {d : DataW H} {p : List MemPlace} (h : DataW.Trod enc Try.prog W base (fun _ => true) true 40 (.slice a len cap) d p) : ∃ l, HasI W a len cap l := by
  obtain ⟨fuel, hf⟩ := h
  rcases open_ints Try.underlying40 Try.underlying3 (by kernel_rfl) hf with ⟨hcs, _⟩ | ⟨x, l, c, zs, hcs, _, hl, hm, hz, _, hcell, hwz⟩
  · simp [Value.cells] at hcs
    obtain ⟨rfl, rfl, rfl⟩ := hcs
    exact ⟨[], rfl, Nat.le_refl _, Nat.zero_le _, fun h => by omega, fun x hx => by simp at hx⟩
  · simp [Value.cells] at hcs
    obtain ⟨rfl, rfl, rfl⟩ := hcs
    simp at hz
    refine ⟨zs.take len, by simp; omega, hl, hm, fun hp => ?_, fun n hn => wf_i64 (hwz n (List.mem_of_mem_take hn))⟩
    obtain ⟨b, off, spot⟩ := x
    have hc := hcell 0 (by omega)
    have hspot : spot = none := by simpa [Addr.add] using World.cell?_spot hc
    subst hspot
    refine ⟨b, off, rfl, ?_, fun i hi => ?_⟩
    · have := World.block_lt_of_cell? W _ hc
      rwa [add_plain] at this
    · have := hcell i (by omega)
      rw [add_plain] at this
      rw [this]
      simp [List.getD, hi]
theorem came_parts {H : Type} {enc : TypeId × Value → H} {W : World} {base : Nat} {a : Option Addr} {len cap : Nat} {d : DataW H} {p : List MemPlace} (h : DataW.Trod enc Try.prog W base (fun _ => true) true 22 (.slice a len cap) d p) : ∃ l, HasP W a len cap l := by
  obtain ⟨fuel, hf⟩ := h
  rcases Go.Deep.open_slice_pairs Try.underlying22 Try.underlying33 (by kernel_rfl) rfl rfl (by kernel_rfl) (by kernel_rfl) hf with ⟨hcs, _⟩ | ⟨x, l, c, m, n, V0, V1, D0, D1, P0, P1, hcs, _, hl, hm, hmm, _, hr⟩
  · simp [Value.cells] at hcs
    obtain ⟨rfl, rfl, rfl⟩ := hcs
    exact ⟨[], rfl, Nat.le_refl _, Nat.zero_le _, fun h => by omega, fun x hx => by simp at hx⟩
  · simp [Value.cells] at hcs
    obtain ⟨rfl, rfl, rfl⟩ := hcs
    simp at hmm
    have key : ∀ i, i < len → ∃ q : Nat × Int, W.cell? (x.add (i * 2)) = some (.int .u64 (q.1 : Int)) ∧ W.cell? (x.add (i * 2 + 1)) = some (.int .i64 q.2) ∧ q.1 < 18446744073709551616 ∧ -9223372036854775808 ≤ q.2 ∧ q.2 ≤ 9223372036854775807 := by
      intro i hi
      obtain ⟨h1, h2, h3, h4⟩ := hr i (by omega)
      obtain ⟨m1, e1, _, hw1⟩ := DataW.trod_int Try.underlying31 h3
      obtain ⟨m2, e2, _, hw2⟩ := DataW.trod_int Try.underlying3 h4
      have f1 : V0 i = .int .u64 m1 := by simpa using e1
      have f2 : V1 i = .int .i64 m2 := by simpa using e2
      have r1 := wf_u64 hw1
      have r2 := wf_i64 hw2
      refine ⟨(m1.toNat, m2), ?_, ?_, by show m1.toNat < _; omega, r2.1, r2.2⟩
      · rw [h1, f1, Int.toNat_of_nonneg r1.1]
      · rw [h2, f2]
    let Q : Nat → Nat × Int := fun i => if hi : i < len then Classical.choose (key i hi) else (0, 0)
    have hQ : ∀ i, i < len → W.cell? (x.add (i * 2)) = some (.int .u64 ((Q i).1 : Int)) ∧ W.cell? (x.add (i * 2 + 1)) = some (.int .i64 (Q i).2) ∧ (Q i).1 < 18446744073709551616 ∧ -9223372036854775808 ≤ (Q i).2 ∧ (Q i).2 ≤ 9223372036854775807 := by
      intro i hi
      have := Classical.choose_spec (key i hi)
      simpa [Q, hi] using this
    refine ⟨(List.range len).map Q, by simp, hl, hm, fun hp => ?_, fun y hy => ?_⟩
    · obtain ⟨b, off, spot⟩ := x
      have hc := (hQ 0 hp).1
      have hspot : spot = none := by simpa [Addr.add] using World.cell?_spot hc
      subst hspot
      refine ⟨b, off, rfl, ?_, fun i hi => ?_⟩
      · have := World.block_lt_of_cell? W _ hc
        rwa [add_plain] at this
      · have h1 := (hQ i hi).1
        have h2 := (hQ i hi).2.1
        rw [add_plain] at h1 h2
        have e : ((List.range len).map Q).getD i (0, 0) = Q i := by simp [List.getD, hi]
        rw [e]
        exact ⟨h1, by rw [Nat.add_assoc]; exact h2⟩
    · obtain ⟨i, hi, rfl⟩ := List.mem_map.1 hy
      exact (hQ i (by simpa using hi)).2.2
end Go.Proofs.Ytgmhnfgpkoebiaa
