/-
  Rows of labels of one's own; the walk of few.
-/
import Derived.Test.YtlmpndmceiihaaaB
namespace Go.Proofs.Ytlmpndmceiihaaa
open Go.RowKit
set_option linter.unusedVariables false

/-- The cells of labels. -/
def flat : List Lab → List Value
  | [] => []
  | p :: ps => .string p.1 :: .string p.2 :: flat ps
theorem flat_len (L : List Lab) : (flat L).length = L.length * 2 := by
  induction L with
  | nil => rfl
  | cons p L ih => simp only [flat, List.length_cons, ih]; omega
theorem flat_app (L M : List Lab) : flat (L ++ M) = flat L ++ flat M := by
  induction L with
  | nil => rfl
  | cons p L ih => simp [flat, ih]
theorem flat_get (L : List Lab) : ∀ i, i < L.length → (flat L)[i * 2]? = some (.string (L.getD i noLab).1) ∧ (flat L)[i * 2 + 1]? = some (.string (L.getD i noLab).2) := by
  induction L with
  | nil => intro i hi; simp at hi
  | cons p L ih =>
    intro i hi
    cases i with
    | zero => simp [flat]
    | succ i =>
      have := ih i (by simpa using hi)
      rw [show (i + 1) * 2 = i * 2 + 1 + 1 by omega]
      simpa [flat] using this
theorem flat_one (L : List Lab) : ∀ u ∈ flat L, u.oneCell' = true := by
  induction L with
  | nil => intro u hu; cases hu
  | cons p L ih =>
    intro u hu
    simp only [flat, List.mem_cons] at hu
    rcases hu with rfl | rfl | hu
    · rfl
    · rfl
    · exact ih u hu
theorem slice_of_owns {W : World} {base : Nat} {e : TypeId} {size : Nat} {v : Value} {k : Nat} {xs : List Value} (h : W.ownsRow base e size v k xs) : ∃ a cap, v = .slice a k cap := by
  rcases h.2 with ⟨rfl, rfl⟩ | ⟨g, cap, cur, rfl, _⟩
  · exact ⟨_, _, rfl⟩
  · exact ⟨_, _, rfl⟩
theorem hasB_of_owns {w : World} {base : Nat} {v : Value} {n : Nat} {L : List Lab} (h : w.ownsRow base 38 2 v n (flat L)) : ∃ a cap, v = .slice a n cap ∧ HasB w a n cap L := by
  have hl : L.length = n := by have := h.1; rw [flat_len] at this; omega
  rcases h.2 with ⟨rfl, rfl⟩ | ⟨g, cap, cur, rfl, hbg, hg, hnc, hcm, hcs, htake⟩
  · obtain rfl : L = [] := List.eq_nil_of_length_eq_zero hl
    exact ⟨none, 0, rfl, hasB_nil w⟩
  · refine ⟨some ⟨g, 0, none⟩, cap, rfl, hl, hnc, hcm, (fun e => by cases e), fun hp => ⟨g, 0, rfl, (Array.getElem?_eq_some_iff.1 hg).1, fun i hi => ?_⟩⟩
    obtain ⟨f1, f2⟩ := flat_get L i (by omega)
    have c1 := h.cells (g := g) rfl _ _ f1
    have c2 := h.cells (g := g) rfl _ _ f2
    rw [add_plain] at c1 c2
    exact ⟨c1, by rw [show 0 + i * 2 + 1 = 0 + (i * 2 + 1) by omega]; exact c2⟩
theorem info39 : (Try.prog.info? 38).map (fun i => (i.zero, i.size, i.bytes)) = some (some (.agg #[.string ByteArray.empty, .string ByteArray.empty]), 2, 32) := by kernel_rfl
theorem info_parts39 : ∃ i, Try.prog.info? 38 = some i ∧ i.zero = some (.agg #[.string ByteArray.empty, .string ByteArray.empty]) ∧ i.size = 2 ∧ i.bytes = 32 := by
  have h := info39
  cases hi : Try.prog.info? 38 with
  | none => rw [hi] at h; cases h
  | some i =>
    rw [hi] at h
    simp only [Option.map_some, Option.some.injEq, Prod.mk.injEq] at h
    exact ⟨i, rfl, h.1, h.2.1, h.2.2⟩
section
variable {w : World} {ops : Array Oper} {rest : List Oper} {o : Oper} {a : Act} {Q : Exit → Act → World → Prop} {K : Act → World → Prop} {E : Prop}
/-- append of one label to a row of one's own. -/
theorem run_appB (w : World) (ty : TypeId) (base : Nat) (v : Value) (k : Nat) (L : List Lab) (hown : w.ownsRow base 38 2 v k (flat L))
    (g : Nat) (cap : Nat) (p : Lab) (h0 : w.cell? ⟨g, 0, none⟩ = some (.string p.1)) (h1 : w.cell? ⟨g, 1, none⟩ = some (.string p.2)) (hb : k + 1 ≤ 1099511627776) (hbase : base ≤ w.heap.size) :
    ∃ v' w', (Builtin.append_ #[23, 23] ty #[v, .slice (some ⟨g, 0, none⟩) 1 cap]).run Try.prog w = .ok v' w' ∧ w'.ownsRow base 38 2 v' (k + 1) (flat (L ++ [p])) ∧ w.grownBy w' v.ownBlock := by
  obtain ⟨i0, hi, hz0, hz1, hz2⟩ := info_parts39
  obtain ⟨v', w', hrun, r1, r2, r3⟩ := run_append_own (P := Try.prog) w base 23 ty 38 i0 (.agg #[.string ByteArray.empty, .string ByteArray.empty]) 2 32 Try.underlying23 hi hz0 hz1 hz2 rfl (by decide) v k (flat L) hown ⟨g, 0, none⟩ 1 cap [.string p.1, .string p.2] rfl
    (fun j u' hj => by
      match j, hj with
      | 0, hj => simp at hj; subst hj; simpa [Addr.add] using h0
      | 1, hj => simp at hj; subst hj; rw [add_plain]; exact h1
      | j + 2, hj => simp at hj) (fun u' hu' => by simp at hu'; rcases hu' with rfl | rfl <;> rfl) (by unfold maxLen; omega) (by omega) hbase
  exact ⟨v', w', hrun, by rw [flat_app]; exact r1, r2⟩
theorem step_appB (hgd : o.guard = none) (s x : Operand) (ho : o.op = .call { callee := .builtin .append, args := #[s, x], argTypes := #[23, 23] })
    (base : Nat) (v : Value) (k : Nat) (L : List Lab) (hs : a.eval s = v) (hown : w.ownsRow base 38 2 v k (flat L))
    (g cap : Nat) (p : Lab) (hx : a.eval x = .slice (some ⟨g, 0, none⟩) 1 cap) (h0 : w.cell? ⟨g, 0, none⟩ = some (.string p.1)) (h1 : w.cell? ⟨g, 1, none⟩ = some (.string p.2)) (hb : k + 1 ≤ 1099511627776) (hbase : base ≤ w.heap.size)
    (h : ∀ v' w', w'.ownsRow base 38 2 v' (k + 1) (flat (L ++ [p])) → w.grownBy w' v.ownBlock → K (a.put o.dst v') w') :
    if Region.wanted o (yielded ops a.tmps) = true then Oper.wp Try.prog o a w K Q else E := by
  have hw : Region.wanted o (yielded ops a.tmps) = true := by simp [Region.wanted, hgd]
  rw [if_pos hw]
  obtain ⟨v', w', hrun, r1, r2⟩ := run_appB w o.type base v k L hown g cap p h0 h1 hb hbase
  unfold Oper.wp
  simp [execOp, ho, resolve, invoke, builtin, hs, hx, hrun, Result.andThen]
  exact h v' w' r1 r2
theorem wpList_appB (hgd : o.guard = none) (s x : Operand) (ho : o.op = .call { callee := .builtin .append, args := #[s, x], argTypes := #[23, 23] })
    (base : Nat) (v : Value) (k : Nat) (L : List Lab) (hs : a.eval s = v) (hown : w.ownsRow base 38 2 v k (flat L))
    (g cap : Nat) (p : Lab) (hx : a.eval x = .slice (some ⟨g, 0, none⟩) 1 cap) (h0 : w.cell? ⟨g, 0, none⟩ = some (.string p.1)) (h1 : w.cell? ⟨g, 1, none⟩ = some (.string p.2)) (hb : k + 1 ≤ 1099511627776) (hbase : base ≤ w.heap.size)
    (h : ∀ v' w', w'.ownsRow base 38 2 v' (k + 1) (flat (L ++ [p])) → w.grownBy w' v.ownBlock → wpList Try.prog ops Q rest (a.put o.dst v') w') : wpList Try.prog ops Q (o :: rest) a w := by
  refine wpList_plain hgd fun K hK' => ?_
  obtain ⟨v', w', hrun, r1, r2⟩ := run_appB w o.type base v k L hown g cap p h0 h1 hb hbase
  unfold Oper.wp
  simp [execOp, ho, resolve, invoke, builtin, hs, hx, hrun, Result.andThen]
  exact hK' _ _ (h v' w' r1 r2)
/-- The lesser of two numbers, as one step of a region that draws. -/
theorem step_min (hgd : o.guard = none) (x y : Operand) (ho : o.op = .call { callee := .builtin .min, args := #[x, y], argTypes := #[3, 3] }) (n c m : Nat) (hx : a.eval x = .int .i64 (n : Int)) (hy : a.eval y = .int .i64 (c : Int)) (hm : min n c = m)
    (h : K (a.put o.dst (.int .i64 (m : Int))) w) :
    if Region.wanted o (yielded ops a.tmps) = true then Oper.wp Try.prog o a w K Q else E := by
  have hw : Region.wanted o (yielded ops a.tmps) = true := by simp [Region.wanted, hgd]
  rw [if_pos hw]
  have e : (if c < n then (c : Int) else (n : Int)) = (m : Int) := by split <;> omega
  unfold Oper.wp
  simp [execOp, ho, resolve, invoke, builtin, hx, hy, run_min_int2, Result.andThen]
  rw [e, Oper.upon_value]
  exact h
end
theorem cells2 (w : World) (x y : Value) (t : TypeId) : (w.alloc (.cells #[x, y] t)).cell? ⟨w.heap.size, 0, none⟩ = some x ∧ (w.alloc (.cells #[x, y] t)).cell? ⟨w.heap.size, 1, none⟩ = some y :=
  ⟨by simp [cell_of_row _ _ _ _ _ _ (heap_alloc_new w _)], by simp [cell_of_row _ _ _ _ _ _ (heap_alloc_new w _)]⟩
theorem ownsB_nil (w : World) (n0 : Nat) (h : n0 ≤ w.heap.size) : (w.alloc (.cells #[] 38)).ownsRow n0 38 2 (.slice (some ⟨w.heap.size, 0, none⟩) 0 0) 0 (flat []) :=
  ⟨rfl, .inr ⟨w.heap.size, 0, #[], rfl, h, heap_alloc_new w _, Nat.le_refl _, by unfold maxLen; omega, rfl, rfl⟩⟩

theorem Below.ofdrew {B : Nat} {w w' : World} (h : Below B w.drew w') : Below B w w' := (Below.drew (Below.refl B w)).trans h
/-- A text's front. -/
def cut (s : Str) (c : Nat) : Str := s.extract 0 (min s.size c)
def fewB (L : List Lab) : List Lab := (L.take 40).map fun p => (cut p.1 65, cut p.2 257)
theorem fewB_len (L : List Lab) : (fewB L).length = min 40 L.length := by simp [fewB]
theorem fewB_take {L : List Lab} {k : Nat} (hk : k < L.length) (h40 : k < 40) : fewB (L.take (k + 1)) = fewB (L.take k) ++ [(cut (L.getD k noLab).1 65, cut (L.getD k noLab).2 257)] := by
  unfold fewB
  rw [List.take_take, List.take_take, Nat.min_eq_right (by omega), Nat.min_eq_right (by omega), List.take_add_one, List.getElem?_eq_getElem hk, List.map_append]
  simp only [Option.toList_some, List.map_cons, List.map_nil, List.getD, List.getElem?_eq_getElem hk, Option.getD_some]
theorem fewB_end {L : List Lab} {k : Nat} (h : k = L.length ∨ k = 40) : fewB (L.take k) = fewB L := by
  unfold fewB
  rcases h with rfl | rfl
  · rw [List.take_length]
  · rw [List.take_take, Nat.min_self]
/-- Labels come out, in memory of their own. -/
def Labs (w : World) (L : List Lab) (e : Ending) (w' : World) : Prop := ∃ a cap, e = .returned (.slice a L.length cap) ∧ HasB w' a L.length cap L ∧ Below w.heap.size w w'

set_option maxRecDepth 100000 in
set_option maxHeartbeats 4000000 in
theorem few_any (w : World) (a : Option Addr) (len cap : Nat) (L : List Lab) (h : HasB w a len cap L) :
    Calls Try.prog 5 #[.slice a len cap] w (Labs w (fewB L)) := by
  have hlen := h.hlen
  have hcells := hide h.cells
  have hcap := h.capb
  have hle := h.le
  unfold maxLen at hcap
  clear h
  go_enter Try.func5, Try.ntmps5
  go_wp2_with fail
  go_loopw [3, 4] (fun v i wr => ∃ (k : Nat) (ao : Option Addr) (co : Nat), k ≤ len ∧ k ≤ 40 ∧ v = .slice ao k co ∧ i = .int .i64 (k : Int) ∧ Hid (wr.ownsRow w.heap.size 38 2 (.slice ao k co) k (flat (fewB (L.take k)))) ∧ Hid (Below w.heap.size w wr)) (fun _ i _ => len - (intOf i).toNat)
  case atStart => exact ⟨0, _, _, Nat.zero_le _, Nat.zero_le _, rfl, rfl, ownsB_nil w _ (Nat.le_refl _), (Below.refl _ w).alloc (Nat.le_refl _) _⟩
  case round =>
    obtain ⟨k, ao, co, hk, hk40, rfl, rfl, hR, hB⟩ := hrel
    by_cases hkl : k < len ∧ k < 40
    · obtain ⟨b, off, rfl, hbl, hcl⟩ := hcells.out (by omega)
      obtain ⟨hc0, hc1⟩ := hcl k hkl.1
      have i1 : (k : Int) < len := by omega
      have i2 : (k : Int) < 40 := by omega
      have c0 : wr.drew.cell? ⟨b, off + k * 2, none⟩ = some (.string (L.getD k noLab).1) := (hB.out.cell (p := ⟨b, off + k * 2, none⟩) hbl).trans hc0
      have c1 : wr.drew.cell? ⟨b, off + k * 2 + 1, none⟩ = some (.string (L.getD k noLab).2) := (hB.out.cell (p := ⟨b, off + k * 2 + 1, none⟩) hbl).trans hc1
      have hbd := hB.out.size
      have hnew := fewB_take (L := L) (k := k) (by omega) hkl.2
      unfold cut at hnew
      generalize L.getD k noLab = x at c0 c1 hnew hc0 hc1
      obtain ⟨x0, x1⟩ := x
      simp only at c0 c1 hnew hc0 hc1
      obtain ⟨m0, hm0⟩ : ∃ m, min x0.size 65 = m := ⟨_, rfl⟩
      obtain ⟨m1, hm1⟩ : ∃ m, min x1.size 257 = m := ⟨_, rfl⟩
      rw [hm0, hm1] at hnew
      have j0 : (m0 : Int) ≤ (x0.size : Int) := by omega
      have j1 : (m1 : Int) ≤ (x1.size : Int) := by omega
      have j2 : m0 ≤ x0.size := by omega
      have j3 : m1 ≤ x1.size := by omega
      have hRd : Hid (wr.drew.ownsRow w.heap.size 38 2 (.slice ao k co) k (flat (fewB (L.take k)))) := hR.out
      replace hnew := hide hnew
      replace hm0 := hide hm0
      replace hm1 := hide hm1
      replace hc0 := hide hc0
      replace hc1 := hide hc1
      have hbd2 : Hid (w.heap.size ≤ wr.drew.heap.size) := hbd
      clear hcl
      go_wp2_with fail
      go_region_held3 (fun w' => w'.cell? ⟨b, off + k * 2, none⟩ = some (.string x0) ∧ w'.cell? ⟨b, off + k * 2 + 1, none⟩ = some (.string x1)) (first | (exact ⟨c0, c1⟩) | (exact ⟨cell_kept c0 (World.grownBy_alloc _ _ none) (fun r e => by cases e), cell_kept c1 (World.grownBy_alloc _ _ none) (fun r e => by cases e)⟩) | (exact ⟨c2, c3⟩)) (first
        | (refine step_min rfl (.tmp 27) (.const (.int .i64 65)) rfl x0.size 65 m0 rfl rfl hm0.out ?_)
        | (refine step_min rfl (.tmp 40) (.const (.int .i64 257)) rfl x1.size 257 m1 rfl rfl hm1.out ?_)
        | (refine step_appB rfl (.tmp 16) (.tmp 44) rfl w.heap.size _ k (fewB (L.take k)) rfl (hRd.out.alloc _) wr.drew.heap.size 1 (x0.extract 0 m0, x1.extract 0 m1) rfl (cells2 _ _ _ _).1 (cells2 _ _ _ _).2 (by omega) (by have := hbd2.out; simp; omega) ?_; intro v' W2 O2 G2; have F2 := ((hB.out.trans ((Below.ofdrew (Below.refl _ _)).mono hbd)).alloc hbd2.out (Obj.cells #[.string (x0.extract 0 m0), .string (x1.extract 0 m1)] 38)).grown G2 (by have := hbd2.out; simp; omega) (fun q e => (hRd.out.lt q e).1); have c2 := (F2.cell (p := ⟨b, off + k * 2, none⟩) hbl).trans hc0.out; have c3 := (F2.cell (p := ⟨b, off + k * 2 + 1, none⟩) hbl).trans hc1.out; obtain ⟨a3, c4, e3⟩ := slice_of_owns O2; subst e3))
      all_goals exact (by
        replace F2 := hide F2
        have O3 : Hid (W2.ownsRow w.heap.size 38 2 (.slice a3 (k + 1) c4) (k + 1) (flat (fewB (L.take (k + 1))))) := by rw [hnew.out]; exact O2
        clear O2 G2 c0 c1 c2 c3 hnew
        go_wp2_with fail
        go_roundw
        case rel => exact ⟨k + 1, a3, c4, by omega, by omega, rfl, by go_num, O3, F2⟩
        case measure => simp [intOf]; omega)
    · have hend := fewB_end (L := L) (k := k) (by omega)
      have hO2 := hR.out
      rw [hend] at hO2
      obtain ⟨a2, c2, e2, H2⟩ := hasB_of_owns hO2
      have hk2 : k = (fewB L).length := by rw [fewB_len]; omega
      have fin : Hid (Labs w (fewB L) (.returned (.slice ao k co)) wr) := ⟨a2, c2, by rw [e2, hk2], by rw [← hk2]; exact H2, hB.out⟩
      replace hk2 := hide hk2
      clear hO2 e2 H2 hend
      by_cases h8 : k < len
      · obtain rfl : k = 40 := by omega
        have i1 : (40 : Int) < len := by omega
        go_wp2_with fail
        go_ret
        exact fin.out
      · obtain rfl : k = len := by omega
        go_wp2_with fail
        go_ret
        exact fin.out
end Go.Proofs.Ytlmpndmceiihaaa
