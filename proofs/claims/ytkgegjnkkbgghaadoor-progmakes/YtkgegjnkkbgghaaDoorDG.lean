/-
  What a round of Text keeps.
-/
import Derived.Test.YtkgegjnkkbgghaaDoorDF
namespace Go.Proofs.YtkgegjnkkbgghaaDoor
open Go.RowKit Go.Shelf Go.Lib
set_option linter.unusedVariables false
set_option linter.unusedSimpArgs false

/-- Old blocks lie as they lay, and so do all but the builder's box and rows of bytes. -/
structure Tz (B gb : Nat) (W W' : World) : Prop where
  bel : Below B W W'
  keep : ∀ k o, k ≠ gb → W.heap[k]? = some o → (∀ xs fr, o ≠ .cells xs 5 fr) → W'.heap[k]? = some o
theorem Tz.refl (B gb : Nat) (W : World) : Tz B gb W W := ⟨Below.refl _ _, fun _ _ _ h _ => h⟩
theorem Tz.trans {B gb : Nat} {A C D : World} (h : Tz B gb A C) (k : Tz B gb C D) : Tz B gb A D := ⟨h.bel.trans k.bel, fun i o hi ho hn => k.keep i o hi (h.keep i o hi ho hn) hn⟩
theorem Tz.below {B gb : Nat} {W W' : World} (h : Below W.heap.size W W') (hB : B ≤ W.heap.size) : Tz B gb W W' := ⟨h.mono hB, fun k o _ ho _ => (h.block k (Array.getElem?_eq_some_iff.1 ho).1).trans ho⟩
theorem Tz.bz {B gb : Nat} {W W' : World} (h : Below B W W') (hb : Bz gb W W') : Tz B gb W W' := ⟨h, fun k o hk ho hn => (hb.block k (Array.getElem?_eq_some_iff.1 ho).1 (fun e => by
  rcases e with e | ⟨xs, fr, e⟩
  · exact hk e
  · rw [ho] at e; cases e; exact hn xs fr rfl)).trans ho⟩
theorem isB_same {B b : Nat} {bs : List Value} {W W' : World} (h : IsBuilder 61 5 B b bs W) (hs : ∀ (k : Nat) (xs : Array Value) (t : TypeId) (fr : Nat × Nat), W.heap[k]? = some (Obj.cells xs t fr) → W'.heap[k]? = some (Obj.cells xs t fr)) : IsBuilder 61 5 B b bs W' := by
  have one : ∀ p, BuilderAt 61 5 B b p bs W → BuilderAt 61 5 B b p bs W' := fun p ⟨hB, v, hb, ho, hn⟩ => by
    refine ⟨hB, v, hs b _ _ _ hb, ⟨ho.1, ?_⟩, hn⟩
    rcases ho.2 with h1 | ⟨g, cp, cur, rfl, h2, h3, h4⟩
    · exact .inl h1
    · exact .inr ⟨g, cp, cur, rfl, h2, hs g _ _ _ h3, h4⟩
  rcases h with h | h
  · exact .inl (one _ h)
  · exact .inr (one _ h)
theorem isB_below {B b : Nat} {bs : List Value} {W W' : World} (h : IsBuilder 61 5 B b bs W) (hb : Below W.heap.size W W') : IsBuilder 61 5 B b bs W' := isB_same h (fun k xs t fr e => (hb.block k (Array.getElem?_eq_some_iff.1 e).1).trans e)
theorem isB_le {B b : Nat} {bs : List Value} {W : World} (h : IsBuilder 61 5 B b bs W) : B ≤ b := by rcases h with h | h <;> exact h.1
/-- Between the rounds of Text. -/
structure TxI (w0 : World) (gb gB : Nat) (v : Value) (l : List UInt8) (W : World) : Prop where
  ib : IsBuilder 61 5 w0.heap.size gb (byteCells l) W
  bB : W.heap[gB]? = some (.cells #[v] 29 (0, 0))
  bel : Below w0.heap.size w0 W
theorem TxI.own {w0 : World} {gb gB B : Nat} {v : Value} {l : List UInt8} {W W' : World} {row : Option Nat} (h : TxI w0 gb gB v l W) (hB : w0.heap.size ≤ B) (hg : W.grownBy W' row) (hr : ∀ r, row = some r → B ≤ r ∧ ∃ o : Obj, W.heap[r]? = some o ∧ o.isCells = false) : TxI w0 gb gB v l W' := by
  have ne : ∀ g xs t fr, W.heap[g]? = some (.cells xs t fr) → some g ≠ row := fun g xs t fr h e => by
    obtain ⟨_, o, ho, hc⟩ := hr g e.symm
    rw [h] at ho
    cases ho
    cases hc
  have same : ∀ (k : Nat) (xs : Array Value) (t : TypeId) (fr : Nat × Nat), W.heap[k]? = some (Obj.cells xs t fr) → W'.heap[k]? = some (Obj.cells xs t fr) := fun k xs t fr e => (hg.block k (Array.getElem?_eq_some_iff.1 e).1 (ne _ _ _ _ e)).trans e
  exact ⟨isB_same h.ib same, same _ _ _ _ h.bB, h.bel.grown hg h.bel.size (fun k e => by have := (hr k e).1; omega)⟩
theorem TxI.below {w0 : World} {gb gB : Nat} {v : Value} {l : List UInt8} {W W' : World} (h : TxI w0 gb gB v l W) (hb : Below W.heap.size W W') : TxI w0 gb gB v l W' :=
  ⟨isB_below h.ib hb, (hb.block gB (Array.getElem?_eq_some_iff.1 h.bB).1).trans h.bB, h.bel.trans (hb.mono h.bel.size)⟩
theorem nums_append (a b : List Int) : nums (a ++ b) = nums a ++ nums b := by simp [nums]
theorem nums_one (z : Int) : nums [z] = 32 :: Lib.itoa z := by simp [nums]
theorem dec_len : ∀ (m n : Nat), n < 10 ^ (m + 1) → (Lib.decDigits n).length ≤ m + 1
  | 0, n, h => by
    rw [Lib.decDigits, dif_pos (by omega)]; simp
  | m + 1, n, h => by
    rw [Lib.decDigits]
    split
    · simp
    · have := dec_len m (n / 10) (by rw [Nat.pow_succ] at h; omega)
      simp
      omega
theorem itoa_len (z : Int) (h0 : 0 ≤ z) (h1 : z < 1000000) : (Lib.itoa z).length ≤ 6 := by
  unfold Lib.itoa
  rw [if_neg (by omega)]
  exact dec_len 5 z.toNat (by omega)
/-- A blank and a number. -/
def spn1 (z : Int) : ByteArray := ⟨(32 :: Lib.itoa z).toArray⟩
theorem spn1_size (z : Int) : (spn1 z).size = (Lib.itoa z).length + 1 := by simp [spn1, ByteArray.size]
theorem add_spn (z : Int) : (⟨#[32]⟩ : ByteArray) ++ (⟨(Lib.itoa z).toArray⟩ : ByteArray) = spn1 z := by
  unfold spn1
  apply ByteArray.ext
  simp [ByteArray.data_append]
end Go.Proofs.YtkgegjnkkbgghaaDoor
