/-
  One more file: append to the reference's files.
-/
import Derived.Test.YtgbijkdfhkkieaaRG
import Derived.Maps.AppendAt
namespace Go.Proofs.Ytgbijkdfhkkieaa
open Go.RowKit Go.Maps Go.Lib
set_option linter.unusedVariables false
set_option linter.unusedSimpArgs false
theorem info102 : (Try.prog.info? 102).map (fun i => (i.zero, i.size, i.bytes)) = some (some (.agg #[.slice none 0 0, .slice none 0 0]), 2, 48) := by kernel_rfl
theorem info_parts102 : ∃ i, Try.prog.info? 102 = some i ∧ i.zero = some (.agg #[.slice none 0 0, .slice none 0 0]) ∧ i.size = 2 ∧ i.bytes = 48 := by
  have h := info102
  cases hi : Try.prog.info? 102 with
  | none => rw [hi] at h; cases h
  | some i =>
    rw [hi] at h
    simp only [Option.map_some, Option.some.injEq, Prod.mk.injEq] at h
    exact ⟨i, rfl, h.1, h.2.1, h.2.2⟩
/-- append of one file that has nothing. -/
theorem run_appF (w : World) (ty : TypeId) (v : Value) (k : Nat) (L : List (Value × Value)) (hown : w.ownsRow 0 102 2 v k (flat2 L))
    (g : Nat) (cap : Nat) (h0 : w.cell? ⟨g, 0, none⟩ = some (.slice none 0 0)) (h1 : w.cell? ⟨g, 1, none⟩ = some (.slice none 0 0)) (hb : k + 1 ≤ 1099511627776) :
    ∃ v' w', (Builtin.append_ #[85, 85] ty #[v, .slice (some ⟨g, 0, none⟩) 1 cap]).run Try.prog w = .ok v' w' ∧ w'.ownsRow 0 102 2 v' (k + 1) (flat2 (L ++ [(.slice none 0 0, .slice none 0 0)])) ∧ w.grownBy w' v.ownBlock ∧ (v'.ownBlock = v.ownBlock ∨ v'.ownBlock = some w.heap.size) := by
  obtain ⟨i0, hi, hz0, hz1, hz2⟩ := info_parts102
  obtain ⟨v', w', hrun, r1, r2, r3, r4⟩ := run_append_own_at (P := Try.prog) w 0 85 ty 102 i0 (.agg #[.slice none 0 0, .slice none 0 0]) 2 48 Try.underlying85 hi hz0 hz1 hz2 rfl (by decide) v k (flat2 L) hown ⟨g, 0, none⟩ 1 cap [.slice none 0 0, .slice none 0 0] rfl
    (fun j u' hj => by
      match j, hj with
      | 0, hj => simp at hj; subst hj; simpa [Addr.add] using h0
      | 1, hj => simp at hj; subst hj; rw [add_plain]; exact h1
      | j + 2, hj => simp at hj) (fun u' hu' => by simp at hu'; subst hu'; rfl) (by unfold maxLen; omega) (by omega) (Nat.zero_le _)
  exact ⟨v', w', hrun, by rw [flat2_app]; exact r1, r2, r4⟩
theorem wpList_appF {w : World} {ops : Array Oper} {rest : List Oper} {o : Oper} {a : Act} {Q : Exit → Act → World → Prop} (hgd : o.guard = none) (s x : Operand) (ho : o.op = .call { callee := .builtin .append, args := #[s, x], argTypes := #[85, 85] })
    (v : Value) (k : Nat) (L : List (Value × Value)) (hs : a.eval s = v) (hown : w.ownsRow 0 102 2 v k (flat2 L))
    (g cap : Nat) (hx : a.eval x = .slice (some ⟨g, 0, none⟩) 1 cap) (h0 : w.cell? ⟨g, 0, none⟩ = some (.slice none 0 0)) (h1 : w.cell? ⟨g, 1, none⟩ = some (.slice none 0 0)) (hb : k + 1 ≤ 1099511627776)
    (h : ∀ v' w', w'.ownsRow 0 102 2 v' (k + 1) (flat2 (L ++ [(.slice none 0 0, .slice none 0 0)])) → w.grownBy w' v.ownBlock → (v'.ownBlock = v.ownBlock ∨ v'.ownBlock = some w.heap.size) → wpList Try.prog ops Q rest (a.put o.dst v') w') : wpList Try.prog ops Q (o :: rest) a w := by
  refine wpList_plain hgd fun K hK' => ?_
  obtain ⟨v', w', hrun, r1, r2, r3⟩ := run_appF w o.type v k L hown g cap h0 h1 hb
  unfold Oper.wp
  simp [execOp, ho, resolve, invoke, builtin, hs, hx, hrun, Result.andThen]
  exact hK' _ _ (h v' w' r1 r2 r3)
section
variable {w : World} {y : Nat} {r : RM} {I : Nat → Prop} {vF vD vS : Value} {K : Nat}
/-- One more file, and the slice stored. -/
theorem Rk.grow (h : Rk w y r I vF vD vS) {w1 w2 : World} (hB : Below w.heap.size w w1) {v' : Value} (ho : w2.ownsRow 0 102 2 v' (r.F.length + 1) (flat2 (r.F ++ [(.slice none 0 0, .slice none 0 0)]))) (hg : w1.grownBy w2 vF.ownBlock) (hv : v'.ownBlock = vF.ownBlock ∨ v'.ownBlock = some w1.heap.size) :
    Rk (w2.setCell ⟨y, 2, none⟩ v') y { r with F := r.F ++ [(.slice none 0 0, .slice none 0 0)] } I v' vD vS ∧ But (Ry y I vF) w (w2.setCell ⟨y, 2, none⟩ v') ∧ ∀ k, Ry y I v' k → Ry y I vF k ∨ w.heap.size ≤ k := by
  have h1 := h.below hB
  have kv : ∀ k, v'.ownBlock = some k → vF.ownBlock = some k ∨ w1.heap.size = k := fun k hk => by
    rcases hv with e | e
    · rw [e] at hk; exact .inl hk
    · rw [e] at hk; exact .inr (Option.some.inj hk)
  have b2 : But (fun x => vF.ownBlock = some x) w1 w2 := (But.refl _ w1).grown hg (fun k e _ => e)
  have hyF : ¬ vF.ownBlock = some y := fun e => (h.ik y e).2 rfl
  have y2 := h1.yb.but b2 hyF
  have b3 := but_setCell w2 y 2 v'
  have bI : ∀ x, I x → ¬ vF.ownBlock = some x := fun x hx e => (h.ik x e).1 hx
  have bI2 : ∀ x, I x → ¬ x = y := fun x hx e => h.iy (e ▸ hx)
  have ky : ∀ k, v'.ownBlock = some k → k ≠ y := fun k hk e => by
    rcases kv k hk with e' | e'
    · exact (h.ik k e').2 e
    · have := h1.yb.lt; omega
  refine ⟨⟨y2.set1 2 v', ?_, ?_, (h1.dd.but b2 bI).but b3 bI2, (h1.ss.but b2 bI).but b3 bI2, ?_, ?_, h.iy, ?_, ?_⟩, ?_, ?_⟩
  · have e : (r.F ++ [((.slice none 0 0 : Value), (.slice none 0 0 : Value))]).length = r.F.length + 1 := by simp
    show World.ownsRow _ 0 102 2 v' (r.F ++ [((.slice none 0 0 : Value), (.slice none 0 0 : Value))]).length _
    rw [e]
    exact owns2 ho (fun k hk => b3.block k (ho.lt k hk).2 (ky k hk))
  · intro p hp
    rcases List.mem_append.1 hp with hp | hp
    · exact ⟨((h1.fl p hp).1.but b2 bI).but b3 bI2, ((h1.fl p hp).2.but b2 bI).but b3 bI2⟩
    · rw [List.mem_singleton.1 hp]
      exact ⟨sl_nil _ _, sl_nil _ _⟩
  · intro e he
    have := h.xd e he
    simp only [List.length_append, List.length_singleton]
    omega
  · intro e he
    have := h.xs e he
    simp only [List.length_append, List.length_singleton]
    omega
  · intro k hk
    refine ⟨fun hi => ?_, ky k hk⟩
    rcases kv k hk with e' | e'
    · exact (h.ik k e').1 hi
    · have := h1.lt k hi; omega
  · intro k hk
    exact Nat.lt_of_lt_of_le (h1.lt k hk) (Nat.le_trans b2.size b3.size)
  · refine ((But.of_below hB (Ry y I vF)).trans (b2.mono (fun k e => .inr (.inl e))) (fun _ _ e => e)).trans (b3.mono (fun k e => ?_)) (fun _ _ e => e)
    exact (.inl e : Ry y I vF k)
  · rintro k (e | e | e)
    · exact .inl (.inl e)
    · rcases kv k e with e' | e'
      · exact .inl (.inr (.inl e'))
      · exact .inr (by have := hB.size; omega)
    · exact .inl (.inr (.inr e))
end
end Go.Proofs.Ytgbijkdfhkkieaa
