/-
  append of a row of labels; Sort of what is sorted but for the order.
-/
import Derived.Test.YtfkjdibhnabkaaaAL
namespace Go.Proofs.Ytfkjdibhnabkaaa
open Go.RowKit Go.Shelf Go.Lib
set_option linter.unusedVariables false
set_option linter.unusedSimpArgs false

/-- Sort of the labels of a good row in any order is the row. -/
theorem sort_same (w : World) (a : Option Addr) (len cap : Nat) (L R : List Lab) (h : HasB w a len cap L) (hp : L.Perm R) (hc : chkB R = true) :
    Calls Try.prog 13 #[.slice a len cap] w fun e w' => ∃ a' cap', e = .returned (.tuple #[.slice a' R.length cap', .int .i64 0]) ∧ HasB w' a' R.length cap' R ∧ Below w.heap.size w w' := by
  have hlen := h.hlen
  have h16 := (chkB_len hc).2
  have hpl := hp.length_eq
  have hf : filB L = L := filB_full (fun x hx => chkB_full hc x (hp.mem_iff.1 hx))
  have hn : Nub L := nub_perm hp.symm (asc_nub (chkB_asc hc))
  refine (sort_apart w a len cap L h (by omega) (by rw [hf]; exact hn) (by rw [hf]; omega)).mono ?_
  rintro e w' ⟨R', pR, aR, hR, B⟩
  rw [hf] at pR
  obtain rfl : R' = R := asc_unique R' R aR (chkB_asc hc) (pR.trans hp)
  rcases hR with ⟨_, a', cap', rfl, H⟩ | ⟨hno, _⟩
  · exact ⟨a', cap', rfl, H, B⟩
  · rw [hc] at hno; cases hno
section
variable {w : World} {ops : Array Oper} {rest : List Oper} {o : Oper} {a : Act} {Q : Exit → Act → World → Prop} {K : Act → World → Prop} {E : Prop}
theorem run_appS (w : World) (ty : TypeId) (base : Nat) (v : Value) (k : Nat) (L : List Lab) (hown : w.ownsRow base 39 2 v k (flat L))
    (b off m cap : Nat) (M : List Lab) (hM : M.length = m) (hc : ∀ i, i < m → w.cell? ⟨b, off + i * 2, none⟩ = some (.string (M.getD i noLab).1) ∧ w.cell? ⟨b, off + i * 2 + 1, none⟩ = some (.string (M.getD i noLab).2)) (hb : k + m ≤ 1099511627776) (hbase : base ≤ w.heap.size) :
    ∃ v' w', (Builtin.append_ #[23, 23] ty #[v, .slice (some ⟨b, off, none⟩) m cap]).run Try.prog w = .ok v' w' ∧ w'.ownsRow base 39 2 v' (k + m) (flat (L ++ M)) ∧ w.grownBy w' v.ownBlock := by
  obtain ⟨i0, hi, hz0, hz1, hz2⟩ := info_parts39
  obtain ⟨v', w', hrun, r1, r2, r3⟩ := run_append_own (P := Try.prog) w base 23 ty 39 i0 (.agg #[.string ByteArray.empty, .string ByteArray.empty]) 2 32 Try.underlying23 hi hz0 hz1 hz2 rfl (by decide) v k (flat L) hown ⟨b, off, none⟩ m cap (flat M) (by rw [flat_len, hM])
    (fun j u hj => by
      have hjl : j < (flat M).length := (List.getElem?_eq_some_iff.1 hj).1
      rw [flat_len] at hjl
      have hg := flat_get M (j / 2) (by omega)
      have hcc := hc (j / 2) (by omega)
      rw [add_plain]
      rcases Nat.mod_two_eq_zero_or_one j with e | e
      · rw [show j / 2 * 2 = j by omega] at hg hcc
        rw [hg.1] at hj
        rw [hcc.1, hj]
      · rw [show j / 2 * 2 + 1 = j by omega] at hg
        rw [show off + j / 2 * 2 + 1 = off + j by omega] at hcc
        rw [hg.2] at hj
        rw [hcc.2, hj]) (flat_one M) (by unfold maxLen; omega) (by omega) hbase
  exact ⟨v', w', hrun, by rw [flat_app]; exact r1, r2⟩
theorem step_appS (hgd : o.guard = none) (s x : Operand) (ho : o.op = .call { callee := .builtin .append, args := #[s, x], argTypes := #[23, 23] })
    (base : Nat) (v : Value) (k : Nat) (L : List Lab) (hs : a.eval s = v) (hown : w.ownsRow base 39 2 v k (flat L))
    (b off m cap : Nat) (M : List Lab) (hx : a.eval x = .slice (some ⟨b, off, none⟩) m cap) (hM : M.length = m) (hc : ∀ i, i < m → w.cell? ⟨b, off + i * 2, none⟩ = some (.string (M.getD i noLab).1) ∧ w.cell? ⟨b, off + i * 2 + 1, none⟩ = some (.string (M.getD i noLab).2)) (hb : k + m ≤ 1099511627776) (hbase : base ≤ w.heap.size)
    (t : Nat) (ht : k + m = t) (N : List Lab) (hN : L ++ M = N)
    (h : ∀ v' w', w'.ownsRow base 39 2 v' t (flat N) → w.grownBy w' v.ownBlock → K (a.put o.dst v') w') :
    if Region.wanted o (yielded ops a.tmps) = true then Oper.wp Try.prog o a w K Q else E := by
  have hw : Region.wanted o (yielded ops a.tmps) = true := by simp [Region.wanted, hgd]
  rw [if_pos hw]
  obtain ⟨v', w', hrun, r1, r2⟩ := run_appS w o.type base v k L hown b off m cap M hM hc hb hbase
  rw [ht, hN] at r1
  unfold Oper.wp
  simp [execOp, ho, resolve, invoke, builtin, hs, hx, hrun, Result.andThen]
  exact h v' w' r1 r2
end
/-- The two parts of a row. -/
theorem HasB.back {w : World} {b off len cap : Nat} {R : List Lab} (h : HasB w (some ⟨b, off, none⟩) len cap R) (k : Nat) (hk : k ≤ len) : (R.drop k).length = len - k ∧ ∀ i, i < len - k → w.cell? ⟨b, off + k * 2 + i * 2, none⟩ = some (.string ((R.drop k).getD i noLab).1) ∧ w.cell? ⟨b, off + k * 2 + i * 2 + 1, none⟩ = some (.string ((R.drop k).getD i noLab).2) := by
  have hl := h.hlen
  refine ⟨by rw [List.length_drop, hl], fun i hi => ?_⟩
  obtain ⟨b', off', e, _, hc⟩ := h.cells (by omega)
  cases e
  have := hc (k + i) (by omega)
  rw [show off + (k + i) * 2 = off + k * 2 + i * 2 by omega] at this
  rw [show (R.drop k).getD i noLab = R.getD (k + i) noLab by simp [List.getD]]
  exact this
theorem HasB.head {w : World} {b off len cap : Nat} {R : List Lab} (h : HasB w (some ⟨b, off, none⟩) len cap R) (k : Nat) (hk : k ≤ len) : (R.take k).length = k ∧ ∀ i, i < k → w.cell? ⟨b, off + i * 2, none⟩ = some (.string ((R.take k).getD i noLab).1) ∧ w.cell? ⟨b, off + i * 2 + 1, none⟩ = some (.string ((R.take k).getD i noLab).2) := by
  have hl := h.hlen
  refine ⟨by rw [List.length_take]; omega, fun i hi => ?_⟩
  obtain ⟨b', off', e, _, hc⟩ := h.cells (by omega)
  cases e
  have := hc i (by omega)
  rw [show (R.take k).getD i noLab = R.getD i noLab by simp [List.getD, List.getElem?_take, hi]]
  exact this
theorem turned (R : List Lab) (k : Nat) : (R.drop k ++ R.take k).Perm R := by
  have := List.perm_append_comm (l₁ := R.drop k) (l₂ := R.take k)
  rwa [List.take_append_drop] at this
end Go.Proofs.Ytfkjdibhnabkaaa
