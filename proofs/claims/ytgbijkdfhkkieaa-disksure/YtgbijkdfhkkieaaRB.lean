/-
  The reference's at, find, without: its directories.
-/
import Derived.Test.YtgbijkdfhkkieaaRA
namespace Go.Proofs.Ytgbijkdfhkkieaa
open Go.RowKit Go.Maps Go.Lib
set_option linter.unusedVariables false
set_option linter.unusedSimpArgs false

theorem str_ext (a b : ByteArray) : a.toList = b.toList ↔ a = b := by
  constructor
  · intro h
    rw [ByteArray.toList_eq, ByteArray.toList_eq] at h
    exact ByteArray.ext (Array.toList_inj.1 h)
  · rintro rfl; rfl
theorem getD_mem {L : List Ent} {k : Nat} (h : k < L.length) : L.getD k noEnt ∈ L := by
  rw [List.getD_eq_getElem?_getD, List.getElem?_eq_getElem h]
  exact List.getElem_mem h
set_option maxHeartbeats 2000000 in
set_option maxRecDepth 100000 in
theorem rat_any {w : World} {y : Nat} {r : RM} {I : Nat → Prop} {vF vD vS : Value} (h : Rk w y r I vF vD vS) (hD : r.D.length ≤ 1000000) (s : ByteArray) : Calls Try.prog 71 #[ptr y, .string s] w fun e w' => w' = w ∧ ((∃ k : Nat, k < r.D.length ∧ e = .returned (.int .i64 (k : Int))) ∨ e = .returned (.int .i64 (-1))) := by
  obtain ⟨c0, c1, c2, c3, c4, c5, c6⟩ := h.cs
  obtain ⟨a, n, c, rfl, H, _⟩ := h.dd
  have hn := H.hlen
  have hc := hide H.cells
  clear h H
  go_enter Try.func71, Try.ntmps71
  go_wp2
  go_loopw [5] (fun i wr => ∃ k : Nat, k ≤ n ∧ i = .int .i64 k ∧ wr = w) (fun i _ => n - (intOf i).toNat)
  case atStart => exact ⟨0, Nat.zero_le _, rfl, rfl⟩
  case round =>
    obtain ⟨k, hk, rfl, rfl⟩ := hrel
    by_cases hkl : k < n
    · have i1 : (k : Int) < (n : Int) := by omega
      obtain ⟨b, off, rfl, hbl, hcl⟩ := hc.out (by omega)
      have q0 := (hcl k hkl).1
      clear hcl
      generalize r.D.getD k noEnt = x at q0
      obtain ⟨x0, x1⟩ := x
      simp only at q0
      by_cases he : x0 = s
      · have e1 : (ByteArray.toList x0 == ByteArray.toList s) = true := by rw [he]; simp
        replace he := hide he
        go_wp2
        go_ret
        exact ⟨rfl, .inl ⟨k, by omega, rfl⟩⟩
      · have e1 : (ByteArray.toList x0 == ByteArray.toList s) = false := beq_eq_false_iff_ne.2 (fun e => he ((str_ext _ _).1 e))
        replace he := hide he
        go_wp2
        go_roundw
        case rel => exact ⟨k + 1, by omega, by go_num, (by first | trivial | rfl)⟩
        case measure => simp [intOf]; omega
    · have i1 : ¬ ((k : Int) < (n : Int)) := by omega
      go_wp2
      go_ret
      exact ⟨rfl, .inr rfl⟩
set_option maxHeartbeats 2000000 in
set_option maxRecDepth 100000 in
/-- find: a file's number, that is one; or an error's. -/
theorem rfind_any {w : World} {y : Nat} {r : RM} {I : Nat → Prop} {vF vD vS : Value} (h : Rk w y r I vF vD vS) (hD : r.D.length ≤ 1000000) (s : ByteArray) : Calls Try.prog 74 #[ptr y, .string s] w fun e w' => w' = w ∧ ((∃ f : Nat, f < r.F.length ∧ e = .returned (.tuple #[.int .i64 (f : Int), .int .i64 0])) ∨ ∃ q : Int, q ≠ 0 ∧ e = .returned (.tuple #[.int .i64 0, .int .i64 q])) := by
  obtain ⟨c0, c1, c2, c3, c4, c5, c6⟩ := h.cs
  have A := hide (rat_any h hD s)
  have hxd := hide h.xd
  have hdd := hide h.dd
  clear h
  cases hk : nameOk s with
  | false =>
    go_enter Try.func74, Try.ntmps74
    go_wp2_with fail
    refine (rname_any s w).mono ?_
    rintro e w1 ⟨rfl, hw⟩; replace hw := hw.symm; subst hw
    rw [hk]
    go_wp2_with fail
    go_ret2
    exact ⟨rfl, .inr ⟨2, by decide, rfl⟩⟩
  | true =>
    cases hg : r.gone with
    | true =>
      rw [hg] at c6
      go_enter Try.func74, Try.ntmps74
      go_wp2_with fail
      refine (rname_any s w).mono ?_
      rintro e w1 ⟨rfl, hw⟩; replace hw := hw.symm; subst hw
      rw [hk]
      go_wp2_with fail
      go_ret2
      exact ⟨rfl, .inr ⟨8, by decide, rfl⟩⟩
    | false =>
      rw [hg] at c6
      go_enter Try.func74, Try.ntmps74
      go_wp2_with fail
      refine (rname_any s w).mono ?_
      rintro e w1 ⟨rfl, hw⟩; replace hw := hw.symm; subst hw
      rw [hk]
      go_wp2_with fail
      refine A.out.mono ?_
      rintro e w1 ⟨hw, ⟨k, hkl, rfl⟩ | rfl⟩
      · replace hw := hw.symm; subst hw
        obtain ⟨a, n, c, e1, H, _⟩ := hdd.out
        have hn := H.hlen
        obtain ⟨b, off, rfl, hbl, hcl⟩ := H.cells (by omega)
        have q1 := (hcl k (by omega)).2
        have hx := hxd.out _ (getD_mem hkl)
        have i1 : (k : Int) < (n : Int) := by omega
        have i2 : ¬ ((k : Int) < 0) := by omega
        subst e1
        clear hcl H
        generalize r.D.getD k noEnt = x at q1 hx
        obtain ⟨x0, x1⟩ := x
        simp only at q1 hx
        go_wp2_with fail
        go_ret2
        exact ⟨rfl, .inl ⟨x1, hx, rfl⟩⟩
      · replace hw := hw.symm; subst hw
        go_wp2_with fail
        go_ret2
        exact ⟨rfl, .inr ⟨5, by decide, rfl⟩⟩
/-- The cells of entries. -/
def flatE : List Ent → List Value
  | [] => []
  | p :: ps => .string p.1 :: .int .i64 (p.2 : Int) :: flatE ps
theorem flatE_len (L : List Ent) : (flatE L).length = L.length * 2 := by
  induction L with
  | nil => rfl
  | cons p L ih => simp only [flatE, List.length_cons, ih]; omega
theorem flatE_app (L M : List Ent) : flatE (L ++ M) = flatE L ++ flatE M := by
  induction L with
  | nil => rfl
  | cons p L ih => simp [flatE, ih]
theorem flatE_get (L : List Ent) : ∀ i, i < L.length → (flatE L)[i * 2]? = some (.string (L.getD i noEnt).1) ∧ (flatE L)[i * 2 + 1]? = some (.int .i64 ((L.getD i noEnt).2 : Int)) := by
  induction L with
  | nil => intro i hi; simp at hi
  | cons p L ih =>
    intro i hi
    cases i with
    | zero => simp [flatE]
    | succ i =>
      have := ih i (by simpa using hi)
      rw [show (i + 1) * 2 = i * 2 + 1 + 1 by omega]
      simpa [flatE] using this
theorem slice_of_owns2 {W : World} {base : Nat} {e : TypeId} {size : Nat} {v : Value} {k : Nat} {xs : List Value} (h : W.ownsRow base e size v k xs) : ∃ a cap, v = .slice a k cap := by
  rcases h.2 with ⟨rfl, rfl⟩ | ⟨g, cap, cur, rfl, _⟩
  · exact ⟨_, _, rfl⟩
  · exact ⟨_, _, rfl⟩
theorem hasE_of_owns {w : World} {base : Nat} {v : Value} {n : Nat} {L : List Ent} (h : w.ownsRow base 105 2 v n (flatE L)) : ∃ a cap, v = .slice a n cap ∧ HasE w a n cap L := by
  have hl : L.length = n := by have := h.1; rw [flatE_len] at this; omega
  rcases h.2 with ⟨rfl, rfl⟩ | ⟨g, cap, cur, rfl, hbg, hg, hnc, hcm, hcs, htake⟩
  · obtain rfl : L = [] := List.eq_nil_of_length_eq_zero hl
    exact ⟨none, 0, rfl, hasE_nil w⟩
  · refine ⟨some ⟨g, 0, none⟩, cap, rfl, hl, hnc, hcm, (fun e => by cases e), fun hp => ⟨g, 0, rfl, (Array.getElem?_eq_some_iff.1 hg).1, fun i hi => ?_⟩⟩
    obtain ⟨f1, f2⟩ := flatE_get L i (by omega)
    have c1 := h.cells (g := g) rfl _ _ f1
    have c2 := h.cells (g := g) rfl _ _ f2
    rw [add_plain] at c1 c2
    exact ⟨c1, by rw [show 0 + i * 2 + 1 = 0 + (i * 2 + 1) by omega]; exact c2⟩
theorem info105 : (Try.prog.info? 105).map (fun i => (i.zero, i.size, i.bytes)) = some (some (.agg #[.string ByteArray.empty, .int .i64 0]), 2, 24) := by kernel_rfl
theorem info_parts105 : ∃ i, Try.prog.info? 105 = some i ∧ i.zero = some (.agg #[.string ByteArray.empty, .int .i64 0]) ∧ i.size = 2 ∧ i.bytes = 24 := by
  have h := info105
  cases hi : Try.prog.info? 105 with
  | none => rw [hi] at h; cases h
  | some i =>
    rw [hi] at h
    simp only [Option.map_some, Option.some.injEq, Prod.mk.injEq] at h
    exact ⟨i, rfl, h.1, h.2.1, h.2.2⟩
/-- append of entries to a row of one's own. -/
theorem run_appE (w : World) (ty : TypeId) (base : Nat) (v : Value) (k : Nat) (L : List Ent) (hown : w.ownsRow base 105 2 v k (flatE L))
    (g : Nat) (cap : Nat) (p : Ent) (h0 : w.cell? ⟨g, 0, none⟩ = some (.string p.1)) (h1 : w.cell? ⟨g, 1, none⟩ = some (.int .i64 (p.2 : Int))) (hb : k + 1 ≤ 1099511627776) (hbase : base ≤ w.heap.size) :
    ∃ v' w', (Builtin.append_ #[86, 86] ty #[v, .slice (some ⟨g, 0, none⟩) 1 cap]).run Try.prog w = .ok v' w' ∧ w'.ownsRow base 105 2 v' (k + 1) (flatE (L ++ [p])) ∧ w.grownBy w' v.ownBlock := by
  obtain ⟨i0, hi, hz0, hz1, hz2⟩ := info_parts105
  obtain ⟨v', w', hrun, r1, r2, r3⟩ := run_append_own (P := Try.prog) w base 86 ty 105 i0 (.agg #[.string ByteArray.empty, .int .i64 0]) 2 24 Try.underlying86 hi hz0 hz1 hz2 rfl (by decide) v k (flatE L) hown ⟨g, 0, none⟩ 1 cap [.string p.1, .int .i64 (p.2 : Int)] rfl
    (fun j u' hj => by
      match j, hj with
      | 0, hj => simp at hj; subst hj; simpa [Addr.add] using h0
      | 1, hj => simp at hj; subst hj; rw [add_plain]; exact h1
      | j + 2, hj => simp at hj) (fun u' hu' => by simp at hu'; rcases hu' with rfl | rfl <;> rfl) (by unfold maxLen; omega) (by omega) hbase
  exact ⟨v', w', hrun, by rw [flatE_app]; exact r1, r2⟩
theorem cells2 (w : World) (x y : Value) (t : TypeId) : (w.alloc (.cells #[x, y] t)).cell? ⟨w.heap.size, 0, none⟩ = some x ∧ (w.alloc (.cells #[x, y] t)).cell? ⟨w.heap.size, 1, none⟩ = some y :=
  ⟨by simp [cell_of_row _ _ _ _ _ _ (heap_alloc_new w _)], by simp [cell_of_row _ _ _ _ _ _ (heap_alloc_new w _)]⟩
theorem ownsE_nil (w : World) (n0 : Nat) (h : n0 ≤ w.heap.size) : (w.alloc (.cells #[] 105)).ownsRow n0 105 2 (.slice (some ⟨w.heap.size, 0, none⟩) 0 0) 0 (flatE []) :=
  ⟨rfl, .inr ⟨w.heap.size, 0, #[], rfl, h, heap_alloc_new w _, Nat.le_refl _, by unfold maxLen; omega, rfl, rfl⟩⟩
section
variable {w : World} {ops : Array Oper} {rest : List Oper} {o : Oper} {a : Act} {Q : Exit → Act → World → Prop}
theorem wpList_appE (hgd : o.guard = none) (s x : Operand) (ho : o.op = .call { callee := .builtin .append, args := #[s, x], argTypes := #[86, 86] })
    (base : Nat) (v : Value) (k : Nat) (L : List Ent) (hs : a.eval s = v) (hown : w.ownsRow base 105 2 v k (flatE L))
    (g cap : Nat) (p : Ent) (hx : a.eval x = .slice (some ⟨g, 0, none⟩) 1 cap) (h0 : w.cell? ⟨g, 0, none⟩ = some (.string p.1)) (h1 : w.cell? ⟨g, 1, none⟩ = some (.int .i64 (p.2 : Int))) (hb : k + 1 ≤ 1099511627776) (hbase : base ≤ w.heap.size)
    (h : ∀ v' w', w'.ownsRow base 105 2 v' (k + 1) (flatE (L ++ [p])) → w.grownBy w' v.ownBlock → wpList Try.prog ops Q rest (a.put o.dst v') w') : wpList Try.prog ops Q (o :: rest) a w := by
  refine wpList_plain hgd fun K hK' => ?_
  obtain ⟨v', w', hrun, r1, r2⟩ := run_appE w o.type base v k L hown g cap p h0 h1 hb hbase
  unfold Oper.wp
  simp [execOp, ho, resolve, invoke, builtin, hs, hx, hrun, Result.andThen]
  exact hK' _ _ (h v' w' r1 r2)
end
end Go.Proofs.Ytgbijkdfhkkieaa
