/-
  The walk of PostIndexes.
-/
import Derived.Test.YthkfbdcocnhebaaZk
import Derived.Test.YthkfbdcocnhebaaAc
import Derived.Test.YthkfbdcocnhebaaI
import Derived.Deep.RegionHeld3
namespace Go.Proofs.Ythkfbdcocnhebaa
open Go.RowKit Go.Maps Go.WideMaps
set_option linter.unusedVariables false
set_option linter.unusedSimpArgs false

theorem Fine.mono {E : List Ent} {N M N' M' : Nat} (h : Fine E N M) (hn : N ≤ N') (hm : M ≤ M') : Fine E N' M' := ⟨h.ups, h.full, h.up, Nat.le_trans h.len hn, fun e he => Nat.le_trans (h.each e he) hm⟩
abbrev tot2 (E : List Ent) : Nat := (E.map (fun e => e.2.length)).sum
theorem tot2_le {E : List Ent} {N M : Nat} (h : Fine E N M) : tot2 E ≤ N * M := by
  have h1 : ∀ l : List Ent, (∀ e ∈ l, e.2.length ≤ M) → tot2 l ≤ l.length * M := by
    intro l
    induction l with
    | nil => intro _; simp [tot2]
    | cons a r ih =>
      intro hl
      have h2 := ih (fun e he => hl e (by simp [he]))
      have h3 := hl a (by simp)
      simp only [tot2, List.map_cons, List.sum_cons, List.length_cons] at h2 ⊢
      rw [Nat.add_mul]
      omega
  exact Nat.le_trans (h1 E h.each) (Nat.mul_le_mul_right _ h.len)
theorem tot2_take {E : List Ent} {i : Nat} (hi : i < E.length) : tot2 (E.take (i + 1)) = tot2 (E.take i) + (E.getD i dE).2.length := by
  unfold tot2
  rw [take_succE hi, List.map_append, List.sum_append]
  simp
theorem tot2_take_le (E : List Ent) (i : Nat) : tot2 (E.take i) ≤ tot2 E := by
  unfold tot2
  conv => rhs; rw [← List.take_append_drop i E]
  rw [List.map_append, List.sum_append]
  omega
/-- Both indexes side by side, behind k acts. -/
structure Both (w : World) (p b g k : Nat) (D : DataW Value) (T : Nat → Prop) (E : List Ent) (w0 : World) : Prop where
  ix : Ix w p b k D T E
  rx : Rx T w g E
  ne : p ≠ g
  fine : Fine E k k
  bel : Below w0.heap.size w0 w
  tn : ∀ q, T q → w0.heap.size ≤ q
  pn : w0.heap.size ≤ p
  gn : w0.heap.size ≤ g
theorem Both.below {w w' : World} {p b g k : Nat} {D : DataW Value} {T : Nat → Prop} {E : List Ent} {w0 : World} (h : Both w p b g k D T E w0) (hb : Below w.heap.size w w') : Both w' p b g k D T E w0 :=
  ⟨h.ix.below hb, h.rx.kept hb, h.ne, h.fine, h.bel.trans (hb.mono h.bel.size), h.tn, h.pn, h.gn⟩
theorem but_below {S : Nat → Prop} {w w' : World} {B : Nat} (h : But S w w') (hS : ∀ q, S q → B ≤ q) (hB : B ≤ w.heap.size) : Below B w w' := ⟨h.os, h.tape, h.output, h.size, fun k hk => h.block k (by omega) (fun hs => by have := hS k hs; omega)⟩
/-- Behind the program's step and the reference's. -/
theorem Both.step {w w1 w2 : World} {p b g k : Nat} {D D' : DataW Value} {T T' : Nat → Prop} {E E' : List Ent} {w0 : World} (h : Both w p b g k D T E w0) (hx : Ix w1 p b (k + 1) D' T' E') (hb : But T w w1) (hT : ∀ q, T' q → T q ∨ w.heap.size ≤ q)
    (hr : Rx T' w2 g E') (hb2 : But (fun q => q = g) w1 w2) (hf : Fine E' (k + 1) (k + 1)) : Both w2 p b g (k + 1) D' T' E' w0 := by
  have hbs := h.bel.size
  refine ⟨hx.kept ⟨hb2.os, hb2.tape, hb2.output, hb2.size, fun q hq hn => hb2.block q hq (fun e => hn ⟨by rw [e]; exact hr.1, by rw [e]; exact h.ne.symm⟩)⟩, hr, h.ne, hf, ?_, fun q hq => ?_, h.pn, h.gn⟩
  · exact (h.bel.trans (but_below hb h.tn hbs)).trans (but_below hb2 (fun q hq => by rw [hq]; exact h.gn) (Nat.le_trans hbs hb.size))
  · rcases hT q hq with h1 | h1
    · exact h.tn q h1
    · omega
/-- The reference's index behind the program's step. -/
theorem Both.mid {w w1 : World} {p b g k : Nat} {D : DataW Value} {T T' : Nat → Prop} {E : List Ent} {w0 : World} (h : Both w p b g k D T E w0) (hb : But T w w1) (hT : ∀ q, T' q → T q ∨ w.heap.size ≤ q) : Rx T' w1 g E := by
  have h1 : Rx (fun q => T q ∨ w.heap.size ≤ q) w g E := h.rx.reno (fun x hx hn => hn.resolve_right (by omega))
  have h2 : Rx (fun q => T q ∨ w.heap.size ≤ q) w1 g E := h1.off ⟨hb.os, hb.tape, hb.output, hb.size, fun q hq hn => hb.block q hq (fun ht => hn (.inl ht))⟩
  exact h2.reno (fun x _ hn => hT x hn)
theorem fine_add {E : List Ent} {k : Nat} (h : Fine E k k) (key : Str) (x : Int) : Fine (st E key (addL (lk E key) x)) (k + 1) (k + 1) :=
  h.set key (up_addL (h.lk_up key) x) (by have := addL_len (l := lk E key) x; have := h.lk_len key; omega)
theorem fine_drop {E : List Ent} {k : Nat} (h : Fine E k k) (key : Str) (x : Int) : Fine (st E key (dropL (lk E key) x)) (k + 1) (k + 1) :=
  h.set key (up_dropL (h.lk_up key) x) (by have := dropL_len (lk E key) x; have := h.lk_len key; omega)
/-- Two indexes that were made. -/
theorem both_made {w w1 : World} {p b : Nat} (hp : w1.heap[p]? = some (.cells #[.map (some b)] 68 (0, 0))) (hm : w1.heap[b]? = some (.map #[] 0)) (hB : Below w.heap.size w w1) (h1 : w.heap.size ≤ p) (h2 : w.heap.size ≤ b) :
    Both (w1.alloc (.cells #[.slice none 0 0] 50)) p b w1.heap.size 0 (.map []) (fun q => q = b) [] w := by
  have hbl := (Array.getElem?_eq_some_iff.1 hm).1
  have hpl := (Array.getElem?_eq_some_iff.1 hp).1
  have hpb : p ≠ b := fun e => by rw [e, hm] at hp; cases hp
  have hk : ∀ q, q < w1.heap.size → (w1.alloc (.cells #[.slice none 0 0] 50)).heap[q]? = w1.heap[q]? := fun q hq => Below.heap_alloc _ _ q hq
  refine ⟨⟨(hk p hpl).trans hp, hpb, ⟨⟨#[], 0, (hk b hbl).trans hm, ⟨by simp, MapKept.stamped_empty 0, by simp⟩, Nat.le_refl _, rfl⟩, fun s _ => World.ownsRow_nil _ _ _ _, fun s _ x hx => by simp [lk] at hx, fun s _ => rfl, fun s t _ _ _ => .inl rfl, rfl, fun s _ q hq => (by cases hq), fun q hq => by rw [hq]; simp; omega⟩, fun e he => by simp at he⟩,
    ⟨fun e => by omega, none, 0, 0, heap_alloc_new w1 _, hasE_nil _ _⟩, by omega, ⟨List.Pairwise.nil, fun e h => by simp at h, fun e h => by simp at h, by simp, fun e h => by simp at h⟩, hB.alloc hB.size _, fun q hq => by rw [hq]; exact h2, h1, hB.size⟩
end Go.Proofs.Ythkfbdcocnhebaa
