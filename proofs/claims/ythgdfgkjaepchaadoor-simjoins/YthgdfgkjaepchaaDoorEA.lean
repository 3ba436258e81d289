/-
  How a pattern, and instructions, come in as arguments.
-/
import Derived.Test.YthgdfgkjaepchaaDoorI
import Derived.Test.YthgdfgkjaepchaaDoorDD
import Derived.Deep.Slices
namespace Go.Proofs.YthgdfgkjaepchaaDoor
open Go.RowKit Go.ChangeShapes Go.WideShapes Go.ChangeAt
set_option linter.unusedVariables false
set_option linter.unusedSimpArgs false

/-- The cells of a pattern that came in, and what can be read of it d levels down. -/
def ArgR (w : World) : Nat → List Value → Prop
  | 0, cs => ∃ (k : Int) (s : S4) (a : Option Addr) (n c : Nat) (mn mx : Int), cs = (reA k s (.slice a n c) mn mx).toList ∧ OkS s
  | d + 1, cs => ∃ (k : Int) (s : S4) (a : Option Addr) (n c : Nat) (mn mx : Int), cs = (reA k s (.slice a n c) mn mx).toList ∧ OkS s ∧ n ≤ maxLen ∧ (0 < n → ∃ b off, a = some ⟨b, off, none⟩ ∧ b < w.heap.size ∧ ∀ i, i < n → ∃ cs', cs'.length = 8 ∧ (∀ j u, cs'[j]? = some u → w.cell? ⟨b, off + i * 8 + j, none⟩ = some u) ∧ ArgR w d cs')
theorem eight {cs : List Value} (h : cs.length = 8) : ∃ v0 v1 v2 v3 v4 v5 v6 v7, cs = [v0, v1, v2, v3, v4, v5, v6, v7] := by
  match cs, h with
  | [v0, v1, v2, v3, v4, v5, v6, v7], _ => exact ⟨v0, v1, v2, v3, v4, v5, v6, v7, rfl⟩
theorem seven {cs : List Value} (h : cs.length = 7) : ∃ v0 v1 v2 v3 v4 v5 v6, cs = [v0, v1, v2, v3, v4, v5, v6] := by
  match cs, h with
  | [v0, v1, v2, v3, v4, v5, v6], _ => exact ⟨v0, v1, v2, v3, v4, v5, v6, rfl⟩
theorem four {cs : List Value} (h : cs.length = 4) : ∃ v0 v1 v2 v3, cs = [v0, v1, v2, v3] := by
  match cs, h with
  | [v0, v1, v2, v3], _ => exact ⟨v0, v1, v2, v3, rfl⟩
theorem cells27 : Tryd.prog.cellsOf 27 = 8 := by kernel_rfl
theorem cells45 : Tryd.prog.cellsOf 52 = 7 := by kernel_rfl
theorem cells3 : Tryd.prog.cellsOf 3 = 1 := by kernel_rfl
theorem cells22 : Tryd.prog.cellsOf 22 = 1 := by kernel_rfl
theorem cells24 : Tryd.prog.cellsOf 24 = 4 := by kernel_rfl
theorem cells25 : Tryd.prog.cellsOf 25 = 1 := by kernel_rfl
section
variable {H : Type} {enc : TypeId × Value → H} {W : World} {base : Nat}
set_option maxRecDepth 100000 in
theorem set_open {fuel : Nat} {cs : List Value} {x : DataW H × List MemPlace} (h : DataW.trod enc Tryd.prog W base (fun _ => true) true fuel 24 cs = some x) : ∃ s : S4, cs = [.int .u64 s.a, .int .u64 s.b, .int .u64 s.c, .int .u64 s.d] ∧ (∀ z ∈ [s.a, s.b, s.c, s.d], (Lit.int .u64 z).wf = true) := by
  obtain ⟨xs, m, rfl, _, hl, hxl, hf⟩ := DataW.trod_array Tryd.underlying24 h
  rw [cells24] at hl
  obtain ⟨v0, v1, v2, v3, rfl⟩ := four hl
  have g0 := hf 0 (by omega)
  have g1 := hf 1 (by omega)
  have g2 := hf 2 (by omega)
  have g3 := hf 3 (by omega)
  simp only [cells22] at g0 g1 g2 g3
  obtain ⟨a0, e0, _, f0⟩ := DataW.trod_int Tryd.underlying22 (g0.trans (List.getElem?_eq_getElem (by omega)))
  obtain ⟨a1, e1, _, f1⟩ := DataW.trod_int Tryd.underlying22 (g1.trans (List.getElem?_eq_getElem (by omega)))
  obtain ⟨a2, e2, _, f2⟩ := DataW.trod_int Tryd.underlying22 (g2.trans (List.getElem?_eq_getElem (by omega)))
  obtain ⟨a3, e3, _, f3⟩ := DataW.trod_int Tryd.underlying22 (g3.trans (List.getElem?_eq_getElem (by omega)))
  simp at e0 e1 e2 e3
  exact ⟨⟨a0, a1, a2, a3⟩, by rw [e0, e1, e2, e3], by simp [f0, f1, f2, f3]⟩
theorem okS_wf {s : S4} (h : ∀ z ∈ [s.a, s.b, s.c, s.d], (Lit.int .u64 z).wf = true) : OkS s := fun k hk => by
  have key : ∀ z, (Lit.int .u64 z).wf = true → 0 ≤ z ∧ z < 18446744073709551616 := fun z hz => by
    have := bounds_u64 hz
    omega
  rcases (show k = 0 ∨ k = 1 ∨ k = 2 ∨ k = 3 by omega) with rfl | rfl | rfl | rfl
  · exact key s.a (h s.a (by simp))
  · exact key s.b (h s.b (by simp))
  · exact key s.c (h s.c (by simp))
  · exact key s.d (h s.d (by simp))
theorem re_open {fuel : Nat} {cs : List Value} {x : DataW H × List MemPlace} (h : DataW.trod enc Tryd.prog W base (fun _ => true) true fuel 27 cs = some x) :
    ∃ (k : Int) (s : S4) (v : Value) (mn mx : Int) (m : Nat) (y : DataW H × List MemPlace), cs = (reA k s v mn mx).toList ∧ OkS s ∧ DataW.trod enc Tryd.prog W base (fun _ => true) true m 25 [v] = some y := by
  obtain ⟨xs, m, rfl, _, hl, hxl, hf⟩ := DataW.trod_struct Tryd.underlying27 h
  rw [cells27] at hl
  obtain ⟨v0, v1, v2, v3, v4, v5, v6, v7, rfl⟩ := eight hl
  have hxl' : xs.length = 5 := hxl
  have g0 := hf 0 { name := "Kind", type := 3, offset := 0, embedded := false, tag := "", pkgPath := "", byteOffset := 0 } rfl
  have g1 := hf 1 { name := "Set", type := 24, offset := 1, embedded := false, tag := "", pkgPath := "", byteOffset := 8 } rfl
  have g2 := hf 2 { name := "L", type := 25, offset := 5, embedded := false, tag := "", pkgPath := "", byteOffset := 40 } rfl
  have g3 := hf 3 { name := "Min", type := 3, offset := 6, embedded := false, tag := "", pkgPath := "", byteOffset := 64 } rfl
  have g4 := hf 4 { name := "Max", type := 3, offset := 7, embedded := false, tag := "", pkgPath := "", byteOffset := 72 } rfl
  dsimp only at g0 g1 g2 g3 g4
  rw [cells3] at g0 g3 g4
  rw [cells24] at g1
  rw [cells25] at g2
  obtain ⟨a0, e0, _, f0⟩ := DataW.trod_int Tryd.underlying3 (g0.trans (List.getElem?_eq_getElem (by omega)))
  obtain ⟨s, e1, e1w⟩ := set_open (g1.trans (List.getElem?_eq_getElem (by omega)))
  obtain ⟨a3, e3, _, f3⟩ := DataW.trod_int Tryd.underlying3 (g3.trans (List.getElem?_eq_getElem (by omega)))
  obtain ⟨a4, e4, _, f4⟩ := DataW.trod_int Tryd.underlying3 (g4.trans (List.getElem?_eq_getElem (by omega)))
  simp at e0 e1 e3 e4
  refine ⟨a0, s, v5, a3, a4, m, _, ?_, okS_wf e1w, g2.trans (List.getElem?_eq_getElem (by omega))⟩
  simp [reA, e0, e1, e3, e4]
theorem argR_of : ∀ (d fuel : Nat) (cs : List Value) (x : DataW H × List MemPlace), DataW.trod enc Tryd.prog W base (fun _ => true) true fuel 27 cs = some x → ArgR W d cs := by
  intro d
  induction d with
  | zero =>
    intro fuel cs x h
    obtain ⟨k, s, v, mn, mx, m, y, rfl, hok, h2⟩ := re_open h
    rcases Go.Deep.open_slice Tryd.underlying25 h2 with ⟨hcs, _⟩ | ⟨a, l, c, _, _, _, _, hcs, _⟩
    · simp at hcs; subst hcs; exact ⟨k, s, none, 0, 0, mn, mx, rfl, hok⟩
    · simp at hcs; subst hcs; exact ⟨k, s, some a, l, c, mn, mx, rfl, hok⟩
  | succ d ih =>
    intro fuel cs x h
    obtain ⟨k, s, v, mn, mx, m, y, rfl, hok, h2⟩ := re_open h
    rcases Go.Deep.open_slice Tryd.underlying25 h2 with ⟨hcs, _⟩ | ⟨a, l, c, mm, n, D, Pl, hcs, _, hl, hm, hmm, _, hx⟩
    · simp at hcs; subst hcs; exact ⟨k, s, none, 0, 0, mn, mx, rfl, hok, Nat.zero_le _, fun h => by omega⟩
    · simp at hcs
      subst hcs
      simp at hmm
      refine ⟨k, s, some a, l, c, mn, mx, rfl, hok, by omega, fun hp => ?_⟩
      have key : ∀ i, i < l → ∃ cs', cs'.length = 8 ∧ (∀ j u, cs'[j]? = some u → W.cell? (a.add (i * 8 + j)) = some u) ∧ ArgR W d cs' := by
        intro i hi
        obtain ⟨cs', h1, h2⟩ := hx i (by omega)
        rw [cells27] at h1
        obtain ⟨_, hlen, hcell⟩ := World.cells?_some h1
        refine ⟨cs', hlen, fun j u hj => ?_, ih _ _ _ h2⟩
        have hj' := (List.getElem?_eq_some_iff.1 hj).1
        have := hcell j (by omega)
        rw [Go.Deep.add_add] at this
        rw [this]
        exact hj
      obtain ⟨b, off, spot⟩ := a
      obtain ⟨cs0, hl0, hc0, _⟩ := key 0 hp
      obtain ⟨u0, hu0⟩ : ∃ u, cs0[0]? = some u := ⟨_, List.getElem?_eq_getElem (by omega)⟩
      have hc := hc0 0 u0 hu0
      have hspot : spot = none := by simpa [Addr.add] using World.cell?_spot hc
      subst hspot
      refine ⟨b, off, rfl, ?_, fun i hi => ?_⟩
      · have := World.block_lt_of_cell? W _ hc
        rwa [add_plain] at this
      · obtain ⟨cs', h1, h2, h3⟩ := key i hi
        refine ⟨cs', h1, fun j u hj => ?_, h3⟩
        have := h2 j u hj
        rwa [add_plain, ← Nat.add_assoc] at this
set_option maxRecDepth 100000 in
theorem came_re {v : Value} {b2 : Nat} {d : DataW H} {p : List MemPlace} (hv : Value.okWide Tryd.prog W .any b2 27 v) (h : DataW.Trod enc Tryd.prog W base (fun _ => true) true 27 v d p) : ∃ cs : Array Value, v = .agg cs ∧ ∀ d, ArgR W d cs.toList := by
  obtain ⟨cs, rfl, hs⟩ := okWide_struct Tryd.underlying27 hv
  obtain ⟨fuel, h⟩ := h
  exact ⟨cs, rfl, fun d => argR_of d fuel _ _ h⟩
theorem ins_open {fuel : Nat} {cs : List Value} {x : DataW H × List MemPlace} (h : DataW.trod enc Tryd.prog W base (fun _ => true) true fuel 52 cs = some x) : ∃ i : Ins, cs = (insA i).toList ∧ (∀ z ∈ [i.s.a, i.s.b, i.s.c, i.s.d], (Lit.int .u64 z).wf = true) := by
  obtain ⟨xs, m, rfl, _, hl, hxl, hf⟩ := DataW.trod_struct Tryd.underlying52 h
  rw [cells45] at hl
  obtain ⟨v0, v1, v2, v3, v4, v5, v6, rfl⟩ := seven hl
  have hxl' : xs.length = 4 := hxl
  have g0 := hf 0 { name := "Op", type := 3, offset := 0, embedded := false, tag := "", pkgPath := "", byteOffset := 0 } rfl
  have g1 := hf 1 { name := "Set", type := 24, offset := 1, embedded := false, tag := "", pkgPath := "", byteOffset := 8 } rfl
  have g2 := hf 2 { name := "X", type := 3, offset := 5, embedded := false, tag := "", pkgPath := "", byteOffset := 40 } rfl
  have g3 := hf 3 { name := "Y", type := 3, offset := 6, embedded := false, tag := "", pkgPath := "", byteOffset := 48 } rfl
  dsimp only at g0 g1 g2 g3
  rw [cells3] at g0 g2 g3
  rw [cells24] at g1
  obtain ⟨a0, e0, _, f0⟩ := DataW.trod_int Tryd.underlying3 (g0.trans (List.getElem?_eq_getElem (by omega)))
  obtain ⟨s, e1, e1b⟩ := set_open (g1.trans (List.getElem?_eq_getElem (by omega)))
  obtain ⟨a2, e2, _, f2⟩ := DataW.trod_int Tryd.underlying3 (g2.trans (List.getElem?_eq_getElem (by omega)))
  obtain ⟨a3, e3, _, f3⟩ := DataW.trod_int Tryd.underlying3 (g3.trans (List.getElem?_eq_getElem (by omega)))
  simp at e0 e1 e2 e3
  exact ⟨⟨a0, s, a2, a3⟩, by simp [insA, e0, e1, e2, e3], e1b⟩
instance : Inhabited Ins := ⟨ins0⟩
/-- Instructions that came in. -/
structure HasI (w : World) (a : Option Addr) (len cap : Nat) (L : List Ins) : Prop where
  hlen : L.length = len
  le : len ≤ cap
  capb : cap ≤ maxLen
  hs : HsI w (fun k => k < w.heap.size) a L
  wf : ∀ i ∈ L, ∀ z ∈ [i.s.a, i.s.b, i.s.c, i.s.d], (Lit.int .u64 z).wf = true
theorem cell_get {w : World} {b o : Nat} {u : Value} (h : w.cell? ⟨b, o, none⟩ = some u) : ∃ cur t fr, w.heap[b]? = some (.cells cur t fr) ∧ cur[o]? = some u := by
  unfold World.cell? at h
  simp only at h
  split at h
  · rename_i cs t fr hb
    exact ⟨cs, t, fr, hb, by simpa using h⟩
  · simp at h
theorem came_insts {a : Option Addr} {len cap : Nat} {d : DataW H} {p : List MemPlace} (h : DataW.Trod enc Tryd.prog W base (fun _ => true) true 29 (.slice a len cap) d p) : ∃ L, HasI W a len cap L := by
  obtain ⟨fuel, hf⟩ := h
  rcases Go.Deep.open_slice Tryd.underlying29 hf with ⟨hcs, _⟩ | ⟨x, l, c, m, n, D, Pl, hcs, _, hl, hm, hmm, _, hx⟩
  · simp [Value.cells] at hcs
    obtain ⟨rfl, rfl, rfl⟩ := hcs
    exact ⟨[], rfl, Nat.le_refl _, Nat.zero_le _, .inl rfl, fun i hi => by cases hi⟩
  · simp [Value.cells] at hcs
    obtain ⟨rfl, rfl, rfl⟩ := hcs
    simp at hmm
    have key : ∀ i, i < len → ∃ q : Ins, (∀ j u, (insA q)[j]? = some u → W.cell? (x.add (i * 7 + j)) = some u) ∧ (∀ z ∈ [q.s.a, q.s.b, q.s.c, q.s.d], (Lit.int .u64 z).wf = true) := by
      intro i hi
      obtain ⟨cs', h1, h2⟩ := hx i (by omega)
      rw [cells45] at h1
      obtain ⟨_, hlen, hcell⟩ := World.cells?_some h1
      obtain ⟨q, rfl, hwf⟩ := ins_open h2
      refine ⟨q, fun j u hj => ?_, hwf⟩
      have hj2 : (insA q).toList[j]? = some u := by simpa using hj
      have hj' := (List.getElem?_eq_some_iff.1 hj2).1
      have := hcell j (by omega)
      rw [Go.Deep.add_add] at this
      rw [this]
      exact hj2
    obtain ⟨Q, hQ⟩ := Go.Deep.choose_lt (α := Ins) key
    refine ⟨(List.range len).map Q, by simp, hl, hm, ?_, ?_⟩
    · rcases Nat.eq_zero_or_pos len with h0 | hp
      · left; subst h0; rfl
      · right
        obtain ⟨b, off, spot⟩ := x
        have hc := (hQ 0 hp).1 0 _ rfl
        have hspot : spot = none := by simpa [Addr.add] using World.cell?_spot hc
        subst hspot
        rw [add_plain] at hc
        obtain ⟨cur, t, fr, hb, _⟩ := cell_get hc
        refine ⟨b, off, cur, t, fr, rfl, (Array.getElem?_eq_some_iff.1 hb).1, hb, fun k i hk j u hj => ?_⟩
        have hk' : k < len := by have := (List.getElem?_eq_some_iff.1 hk).1; simpa using this
        have : i = Q k := by simpa [hk'] using hk.symm
        subst this
        have := (hQ k hk').1 j u hj
        rw [add_plain, ← Nat.add_assoc, cell_of_row W b _ _ t fr hb] at this
        exact this
    · intro i hi
      obtain ⟨k, hk, rfl⟩ := List.mem_map.1 hi
      exact (hQ k (by simpa using hk)).2
end
end Go.Proofs.YthgdfgkjaepchaaDoor
