/-
  shape, Check, by the reference, of any pattern.
-/
import Derived.Test.YtkgegjnkkbgghaaDoorGA
namespace Go.Proofs.YtkgegjnkkbgghaaDoor
open Go.RowKit
set_option linter.unusedVariables false
set_option linter.unusedSimpArgs false

theorem eql24_no {s : S4} (h : s ≠ noSet) (w : World) : (binOp .eql 24 (.agg #[.int .u64 s.a, .int .u64 s.b, .int .u64 s.c, .int .u64 s.d]) (.agg #[.int .u64 0, .int .u64 0, .int .u64 0, .int .u64 0])).run Tryd.prog w = .ok (.bool false) w := by
  have h1 := run_eq24 s noSet 9998 w
  rw [eqS_no h] at h1
  unfold setV at h1
  have h2 : (binOp .eql 24 (.agg (setA s)) (.agg (setA noSet))).run Tryd.prog w = .ok (.bool false) w := by
    rw [run_eql_struct, h1]
    rfl
  exact h2
theorem eql24_yes (w : World) : (binOp .eql 24 (.agg #[.int .u64 0, .int .u64 0, .int .u64 0, .int .u64 0]) (.agg #[.int .u64 0, .int .u64 0, .int .u64 0, .int .u64 0])).run Tryd.prog w = .ok (.bool true) w := by kernel_rfl
/-- Whether the first i may be. -/
def Fo.fitTo (f : Fo) : Nat → Prop
  | 0 => True
  | i + 1 => f.fitTo i ∧ fitT (f.nth i)
theorem fitTo_cons (n : Nd) (k r : Fo) : ∀ i, (Fo.cons n k r).fitTo (i + 1) ↔ fitT (n, k) ∧ r.fitTo i
  | 0 => by simp [Fo.fitTo, Fo.nth]
  | i + 1 => by rw [Fo.fitTo, fitTo_cons n k r i]; simp [Fo.fitTo, Fo.nth, and_assoc]
theorem fitTo_len : ∀ f : Fo, f.fitTo f.len ↔ f.fit
  | .nil => Iff.rfl
  | .cons n k r => by rw [Fo.len, fitTo_cons, fitTo_len r]; simp [fitT, Fo.fit, and_assoc]
theorem fit_fitTo (f : Fo) (h : f.fit) : ∀ i, i ≤ f.len → f.fitTo i := by
  have down : ∀ i, f.fitTo (i + 1) → f.fitTo i := fun i h => h.1
  have h0 := (fitTo_len f).2 h
  intro i hi
  obtain ⟨j, hj⟩ : ∃ j, f.len = i + j := ⟨f.len - i, by omega⟩
  rw [hj] at h0
  clear hj hi
  induction j with
  | zero => exact h0
  | succ j ih => exact ih (down _ h0)
/-- What shape answers. -/
noncomputable def shB (t : Tr) : Bool := by
  classical
  exact decide (fitT t)
theorem shB_yes {t : Tr} (h : fitT t) : shB t = true := by unfold shB; simp [h]
theorem shB_no {t : Tr} (h : ¬ fitT t) : shB t = false := by unfold shB; simp [h]
set_option maxHeartbeats 4000000 in
set_option maxRecDepth 100000 in
theorem ns1a_e_p00   (ln : Nat) (hl : ¬ ln = 0)   (a : Option Addr) (c : Nat) (w : World) : Calls Tryd.prog 41 #[reV (1) (noSet) (.slice a ln c) (0) (0)] w fun e w' => e = .returned (.bool false) ∧ Below w.heap.size w w' := by
  have H := St.start Nope w
  have ky := fun w => eql24_yes w
  have kg := guard25
  have hb : ((ln : Int) == 0) = false := beq_eq_false_iff_ne.2 (by omega)
  have hc : ¬ ((ln : Int) = 0) := by omega
  go_enter Tryd.func41, Tryd.ntmps41
  go_wp2_with (first | ((with_reducible refine at_box 27 ?_); refine wl_box28 H rfl ?_; clear H; intro g w1 H q1 q2; have c0 := H.cell 0 0 rfl (v := .int .i64 (1)) rfl; have c1 := H.cell 0 1 rfl (v := .int .u64 (noSet).a) rfl; have c2 := H.cell 0 2 rfl (v := .int .u64 (noSet).b) rfl; have c3 := H.cell 0 3 rfl (v := .int .u64 (noSet).c) rfl; have c4 := H.cell 0 4 rfl (v := .int .u64 (noSet).d) rfl; have c5 := H.cell 0 5 rfl (v := .slice a ln c) rfl; have c6 := H.cell 0 6 rfl (v := .int .i64 (0)) rfl; have c7 := H.cell 0 7 rfl (v := .int .i64 (0)) rfl; try simp only [noSet] at c1 c2 c3 c4))
  have HB := hide H.below
  replace H := hide H
  go_loop [5, 6] (fun ov iv => ov = .bool false ∧ iv = .int .i64 0) (fun _ _ => 0)
  case atStart => exact ⟨rfl, rfl⟩
  case round =>
    obtain ⟨rfl, rfl⟩ := hrel
    go_wp2_with fail
    go_ret
    exact ⟨rfl, HB.out⟩
set_option maxHeartbeats 4000000 in
set_option maxRecDepth 100000 in
theorem ns1a_e_pm   (ln : Nat) (hl : ¬ ln = 0) (mn mx : Int) (hmn : ¬ mn = 0)  (a : Option Addr) (c : Nat) (w : World) : Calls Tryd.prog 41 #[reV (1) (noSet) (.slice a ln c) (mn) (mx)] w fun e w' => e = .returned (.bool false) ∧ Below w.heap.size w w' := by
  have H := St.start Nope w
  have ky := fun w => eql24_yes w
  have kg := guard25
  have mnb : (mn == 0) = false := by simpa using hmn
  have hb : ((ln : Int) == 0) = false := beq_eq_false_iff_ne.2 (by omega)
  have hc : ¬ ((ln : Int) = 0) := by omega
  go_enter Tryd.func41, Tryd.ntmps41
  go_wp2_with (first | ((with_reducible refine at_box 27 ?_); refine wl_box28 H rfl ?_; clear H; intro g w1 H q1 q2; have c0 := H.cell 0 0 rfl (v := .int .i64 (1)) rfl; have c1 := H.cell 0 1 rfl (v := .int .u64 (noSet).a) rfl; have c2 := H.cell 0 2 rfl (v := .int .u64 (noSet).b) rfl; have c3 := H.cell 0 3 rfl (v := .int .u64 (noSet).c) rfl; have c4 := H.cell 0 4 rfl (v := .int .u64 (noSet).d) rfl; have c5 := H.cell 0 5 rfl (v := .slice a ln c) rfl; have c6 := H.cell 0 6 rfl (v := .int .i64 (mn)) rfl; have c7 := H.cell 0 7 rfl (v := .int .i64 (mx)) rfl; try simp only [noSet] at c1 c2 c3 c4))
  have HB := hide H.below
  replace H := hide H
  go_loop [5, 6] (fun ov iv => ov = .bool false ∧ iv = .int .i64 0) (fun _ _ => 0)
  case atStart => exact ⟨rfl, rfl⟩
  case round =>
    obtain ⟨rfl, rfl⟩ := hrel
    go_wp2_with fail
    go_ret
    exact ⟨rfl, HB.out⟩
set_option maxHeartbeats 4000000 in
set_option maxRecDepth 100000 in
theorem ns1b_e_pm    (mn mx : Int) (hmn : ¬ mn = 0)  (a : Option Addr) (c : Nat) (w : World) : Calls Tryd.prog 41 #[reV (1) (noSet) (.slice a 0 c) (mn) (mx)] w fun e w' => e = .returned (.bool false) ∧ Below w.heap.size w w' := by
  have H := St.start Nope w
  have ky := fun w => eql24_yes w
  have kg := guard25
  have mnb : (mn == 0) = false := by simpa using hmn
  go_enter Tryd.func41, Tryd.ntmps41
  go_wp2_with (first | ((with_reducible refine at_box 27 ?_); refine wl_box28 H rfl ?_; clear H; intro g w1 H q1 q2; have c0 := H.cell 0 0 rfl (v := .int .i64 (1)) rfl; have c1 := H.cell 0 1 rfl (v := .int .u64 (noSet).a) rfl; have c2 := H.cell 0 2 rfl (v := .int .u64 (noSet).b) rfl; have c3 := H.cell 0 3 rfl (v := .int .u64 (noSet).c) rfl; have c4 := H.cell 0 4 rfl (v := .int .u64 (noSet).d) rfl; have c5 := H.cell 0 5 rfl (v := .slice a 0 c) rfl; have c6 := H.cell 0 6 rfl (v := .int .i64 (mn)) rfl; have c7 := H.cell 0 7 rfl (v := .int .i64 (mx)) rfl; try simp only [noSet] at c1 c2 c3 c4))
  have HB := hide H.below
  replace H := hide H
  go_loop [5, 6] (fun ov iv => ov = .bool false ∧ iv = .int .i64 0) (fun _ _ => 0)
  case atStart => exact ⟨rfl, rfl⟩
  case round =>
    obtain ⟨rfl, rfl⟩ := hrel
    go_wp2_with fail
    go_ret
    exact ⟨rfl, HB.out⟩
set_option maxHeartbeats 4000000 in
set_option maxRecDepth 100000 in
theorem ns1a_e_px   (ln : Nat) (hl : ¬ ln = 0) (mx : Int) (hmx : ¬ mx = 0)  (a : Option Addr) (c : Nat) (w : World) : Calls Tryd.prog 41 #[reV (1) (noSet) (.slice a ln c) (0) (mx)] w fun e w' => e = .returned (.bool false) ∧ Below w.heap.size w w' := by
  have H := St.start Nope w
  have ky := fun w => eql24_yes w
  have kg := guard25
  have mxb : (mx == 0) = false := by simpa using hmx
  have hb : ((ln : Int) == 0) = false := beq_eq_false_iff_ne.2 (by omega)
  have hc : ¬ ((ln : Int) = 0) := by omega
  go_enter Tryd.func41, Tryd.ntmps41
  go_wp2_with (first | ((with_reducible refine at_box 27 ?_); refine wl_box28 H rfl ?_; clear H; intro g w1 H q1 q2; have c0 := H.cell 0 0 rfl (v := .int .i64 (1)) rfl; have c1 := H.cell 0 1 rfl (v := .int .u64 (noSet).a) rfl; have c2 := H.cell 0 2 rfl (v := .int .u64 (noSet).b) rfl; have c3 := H.cell 0 3 rfl (v := .int .u64 (noSet).c) rfl; have c4 := H.cell 0 4 rfl (v := .int .u64 (noSet).d) rfl; have c5 := H.cell 0 5 rfl (v := .slice a ln c) rfl; have c6 := H.cell 0 6 rfl (v := .int .i64 (0)) rfl; have c7 := H.cell 0 7 rfl (v := .int .i64 (mx)) rfl; try simp only [noSet] at c1 c2 c3 c4))
  have HB := hide H.below
  replace H := hide H
  go_loop [5, 6] (fun ov iv => ov = .bool false ∧ iv = .int .i64 0) (fun _ _ => 0)
  case atStart => exact ⟨rfl, rfl⟩
  case round =>
    obtain ⟨rfl, rfl⟩ := hrel
    go_wp2_with fail
    go_ret
    exact ⟨rfl, HB.out⟩
set_option maxHeartbeats 4000000 in
set_option maxRecDepth 100000 in
theorem ns1b_e_px    (mx : Int) (hmx : ¬ mx = 0)  (a : Option Addr) (c : Nat) (w : World) : Calls Tryd.prog 41 #[reV (1) (noSet) (.slice a 0 c) (0) (mx)] w fun e w' => e = .returned (.bool false) ∧ Below w.heap.size w w' := by
  have H := St.start Nope w
  have ky := fun w => eql24_yes w
  have kg := guard25
  have mxb : (mx == 0) = false := by simpa using hmx
  go_enter Tryd.func41, Tryd.ntmps41
  go_wp2_with (first | ((with_reducible refine at_box 27 ?_); refine wl_box28 H rfl ?_; clear H; intro g w1 H q1 q2; have c0 := H.cell 0 0 rfl (v := .int .i64 (1)) rfl; have c1 := H.cell 0 1 rfl (v := .int .u64 (noSet).a) rfl; have c2 := H.cell 0 2 rfl (v := .int .u64 (noSet).b) rfl; have c3 := H.cell 0 3 rfl (v := .int .u64 (noSet).c) rfl; have c4 := H.cell 0 4 rfl (v := .int .u64 (noSet).d) rfl; have c5 := H.cell 0 5 rfl (v := .slice a 0 c) rfl; have c6 := H.cell 0 6 rfl (v := .int .i64 (0)) rfl; have c7 := H.cell 0 7 rfl (v := .int .i64 (mx)) rfl; try simp only [noSet] at c1 c2 c3 c4))
  have HB := hide H.below
  replace H := hide H
  go_loop [5, 6] (fun ov iv => ov = .bool false ∧ iv = .int .i64 0) (fun _ _ => 0)
  case atStart => exact ⟨rfl, rfl⟩
  case round =>
    obtain ⟨rfl, rfl⟩ := hrel
    go_wp2_with fail
    go_ret
    exact ⟨rfl, HB.out⟩
set_option maxHeartbeats 4000000 in
set_option maxRecDepth 100000 in
theorem ns1a_n_p00  (s : S4) (hs : s ≠ noSet) (ln : Nat) (hl : ¬ ln = 0)   (a : Option Addr) (c : Nat) (w : World) : Calls Tryd.prog 41 #[reV (1) (s) (.slice a ln c) (0) (0)] w fun e w' => e = .returned (.bool false) ∧ Below w.heap.size w w' := by
  have H := St.start Nope w
  have ky := fun w => eql24_yes w
  have kg := guard25
  have ks := fun w => eql24_no hs w
  have hb : ((ln : Int) == 0) = false := beq_eq_false_iff_ne.2 (by omega)
  have hc : ¬ ((ln : Int) = 0) := by omega
  go_enter Tryd.func41, Tryd.ntmps41
  go_wp2_with (first | ((with_reducible refine at_box 27 ?_); refine wl_box28 H rfl ?_; clear H; intro g w1 H q1 q2; have c0 := H.cell 0 0 rfl (v := .int .i64 (1)) rfl; have c1 := H.cell 0 1 rfl (v := .int .u64 (s).a) rfl; have c2 := H.cell 0 2 rfl (v := .int .u64 (s).b) rfl; have c3 := H.cell 0 3 rfl (v := .int .u64 (s).c) rfl; have c4 := H.cell 0 4 rfl (v := .int .u64 (s).d) rfl; have c5 := H.cell 0 5 rfl (v := .slice a ln c) rfl; have c6 := H.cell 0 6 rfl (v := .int .i64 (0)) rfl; have c7 := H.cell 0 7 rfl (v := .int .i64 (0)) rfl; try simp only [noSet] at c1 c2 c3 c4))
  have HB := hide H.below
  replace H := hide H
  go_loop [5, 6] (fun ov iv => ov = .bool false ∧ iv = .int .i64 0) (fun _ _ => 0)
  case atStart => exact ⟨rfl, rfl⟩
  case round =>
    obtain ⟨rfl, rfl⟩ := hrel
    go_wp2_with fail
    go_ret
    exact ⟨rfl, HB.out⟩
set_option maxHeartbeats 4000000 in
set_option maxRecDepth 100000 in
theorem ns1a_n_pm  (s : S4) (hs : s ≠ noSet) (ln : Nat) (hl : ¬ ln = 0) (mn mx : Int) (hmn : ¬ mn = 0)  (a : Option Addr) (c : Nat) (w : World) : Calls Tryd.prog 41 #[reV (1) (s) (.slice a ln c) (mn) (mx)] w fun e w' => e = .returned (.bool false) ∧ Below w.heap.size w w' := by
  have H := St.start Nope w
  have ky := fun w => eql24_yes w
  have kg := guard25
  have ks := fun w => eql24_no hs w
  have mnb : (mn == 0) = false := by simpa using hmn
  have hb : ((ln : Int) == 0) = false := beq_eq_false_iff_ne.2 (by omega)
  have hc : ¬ ((ln : Int) = 0) := by omega
  go_enter Tryd.func41, Tryd.ntmps41
  go_wp2_with (first | ((with_reducible refine at_box 27 ?_); refine wl_box28 H rfl ?_; clear H; intro g w1 H q1 q2; have c0 := H.cell 0 0 rfl (v := .int .i64 (1)) rfl; have c1 := H.cell 0 1 rfl (v := .int .u64 (s).a) rfl; have c2 := H.cell 0 2 rfl (v := .int .u64 (s).b) rfl; have c3 := H.cell 0 3 rfl (v := .int .u64 (s).c) rfl; have c4 := H.cell 0 4 rfl (v := .int .u64 (s).d) rfl; have c5 := H.cell 0 5 rfl (v := .slice a ln c) rfl; have c6 := H.cell 0 6 rfl (v := .int .i64 (mn)) rfl; have c7 := H.cell 0 7 rfl (v := .int .i64 (mx)) rfl; try simp only [noSet] at c1 c2 c3 c4))
  have HB := hide H.below
  replace H := hide H
  go_loop [5, 6] (fun ov iv => ov = .bool false ∧ iv = .int .i64 0) (fun _ _ => 0)
  case atStart => exact ⟨rfl, rfl⟩
  case round =>
    obtain ⟨rfl, rfl⟩ := hrel
    go_wp2_with fail
    go_ret
    exact ⟨rfl, HB.out⟩
set_option maxHeartbeats 4000000 in
set_option maxRecDepth 100000 in
theorem ns1b_n_pm  (s : S4) (hs : s ≠ noSet)  (mn mx : Int) (hmn : ¬ mn = 0)  (a : Option Addr) (c : Nat) (w : World) : Calls Tryd.prog 41 #[reV (1) (s) (.slice a 0 c) (mn) (mx)] w fun e w' => e = .returned (.bool false) ∧ Below w.heap.size w w' := by
  have H := St.start Nope w
  have ky := fun w => eql24_yes w
  have kg := guard25
  have ks := fun w => eql24_no hs w
  have mnb : (mn == 0) = false := by simpa using hmn
  go_enter Tryd.func41, Tryd.ntmps41
  go_wp2_with (first | ((with_reducible refine at_box 27 ?_); refine wl_box28 H rfl ?_; clear H; intro g w1 H q1 q2; have c0 := H.cell 0 0 rfl (v := .int .i64 (1)) rfl; have c1 := H.cell 0 1 rfl (v := .int .u64 (s).a) rfl; have c2 := H.cell 0 2 rfl (v := .int .u64 (s).b) rfl; have c3 := H.cell 0 3 rfl (v := .int .u64 (s).c) rfl; have c4 := H.cell 0 4 rfl (v := .int .u64 (s).d) rfl; have c5 := H.cell 0 5 rfl (v := .slice a 0 c) rfl; have c6 := H.cell 0 6 rfl (v := .int .i64 (mn)) rfl; have c7 := H.cell 0 7 rfl (v := .int .i64 (mx)) rfl; try simp only [noSet] at c1 c2 c3 c4))
  have HB := hide H.below
  replace H := hide H
  go_loop [5, 6] (fun ov iv => ov = .bool false ∧ iv = .int .i64 0) (fun _ _ => 0)
  case atStart => exact ⟨rfl, rfl⟩
  case round =>
    obtain ⟨rfl, rfl⟩ := hrel
    go_wp2_with fail
    go_ret
    exact ⟨rfl, HB.out⟩
set_option maxHeartbeats 4000000 in
set_option maxRecDepth 100000 in
theorem ns1a_n_px  (s : S4) (hs : s ≠ noSet) (ln : Nat) (hl : ¬ ln = 0) (mx : Int) (hmx : ¬ mx = 0)  (a : Option Addr) (c : Nat) (w : World) : Calls Tryd.prog 41 #[reV (1) (s) (.slice a ln c) (0) (mx)] w fun e w' => e = .returned (.bool false) ∧ Below w.heap.size w w' := by
  have H := St.start Nope w
  have ky := fun w => eql24_yes w
  have kg := guard25
  have ks := fun w => eql24_no hs w
  have mxb : (mx == 0) = false := by simpa using hmx
  have hb : ((ln : Int) == 0) = false := beq_eq_false_iff_ne.2 (by omega)
  have hc : ¬ ((ln : Int) = 0) := by omega
  go_enter Tryd.func41, Tryd.ntmps41
  go_wp2_with (first | ((with_reducible refine at_box 27 ?_); refine wl_box28 H rfl ?_; clear H; intro g w1 H q1 q2; have c0 := H.cell 0 0 rfl (v := .int .i64 (1)) rfl; have c1 := H.cell 0 1 rfl (v := .int .u64 (s).a) rfl; have c2 := H.cell 0 2 rfl (v := .int .u64 (s).b) rfl; have c3 := H.cell 0 3 rfl (v := .int .u64 (s).c) rfl; have c4 := H.cell 0 4 rfl (v := .int .u64 (s).d) rfl; have c5 := H.cell 0 5 rfl (v := .slice a ln c) rfl; have c6 := H.cell 0 6 rfl (v := .int .i64 (0)) rfl; have c7 := H.cell 0 7 rfl (v := .int .i64 (mx)) rfl; try simp only [noSet] at c1 c2 c3 c4))
  have HB := hide H.below
  replace H := hide H
  go_loop [5, 6] (fun ov iv => ov = .bool false ∧ iv = .int .i64 0) (fun _ _ => 0)
  case atStart => exact ⟨rfl, rfl⟩
  case round =>
    obtain ⟨rfl, rfl⟩ := hrel
    go_wp2_with fail
    go_ret
    exact ⟨rfl, HB.out⟩
set_option maxHeartbeats 4000000 in
set_option maxRecDepth 100000 in
theorem ns1b_n_px  (s : S4) (hs : s ≠ noSet)  (mx : Int) (hmx : ¬ mx = 0)  (a : Option Addr) (c : Nat) (w : World) : Calls Tryd.prog 41 #[reV (1) (s) (.slice a 0 c) (0) (mx)] w fun e w' => e = .returned (.bool false) ∧ Below w.heap.size w w' := by
  have H := St.start Nope w
  have ky := fun w => eql24_yes w
  have kg := guard25
  have ks := fun w => eql24_no hs w
  have mxb : (mx == 0) = false := by simpa using hmx
  go_enter Tryd.func41, Tryd.ntmps41
  go_wp2_with (first | ((with_reducible refine at_box 27 ?_); refine wl_box28 H rfl ?_; clear H; intro g w1 H q1 q2; have c0 := H.cell 0 0 rfl (v := .int .i64 (1)) rfl; have c1 := H.cell 0 1 rfl (v := .int .u64 (s).a) rfl; have c2 := H.cell 0 2 rfl (v := .int .u64 (s).b) rfl; have c3 := H.cell 0 3 rfl (v := .int .u64 (s).c) rfl; have c4 := H.cell 0 4 rfl (v := .int .u64 (s).d) rfl; have c5 := H.cell 0 5 rfl (v := .slice a 0 c) rfl; have c6 := H.cell 0 6 rfl (v := .int .i64 (0)) rfl; have c7 := H.cell 0 7 rfl (v := .int .i64 (mx)) rfl; try simp only [noSet] at c1 c2 c3 c4))
  have HB := hide H.below
  replace H := hide H
  go_loop [5, 6] (fun ov iv => ov = .bool false ∧ iv = .int .i64 0) (fun _ _ => 0)
  case atStart => exact ⟨rfl, rfl⟩
  case round =>
    obtain ⟨rfl, rfl⟩ := hrel
    go_wp2_with fail
    go_ret
    exact ⟨rfl, HB.out⟩
set_option maxHeartbeats 4000000 in
set_option maxRecDepth 100000 in
theorem ns2_n_p00  (s : S4) (hs : s ≠ noSet) (ln : Nat)   (a : Option Addr) (c : Nat) (w : World) : Calls Tryd.prog 41 #[reV (2) (s) (.slice a ln c) (0) (0)] w fun e w' => e = .returned (.bool false) ∧ Below w.heap.size w w' := by
  have H := St.start Nope w
  have ky := fun w => eql24_yes w
  have kg := guard25
  have ks := fun w => eql24_no hs w
  go_enter Tryd.func41, Tryd.ntmps41
  go_wp2_with (first | ((with_reducible refine at_box 27 ?_); refine wl_box28 H rfl ?_; clear H; intro g w1 H q1 q2; have c0 := H.cell 0 0 rfl (v := .int .i64 (2)) rfl; have c1 := H.cell 0 1 rfl (v := .int .u64 (s).a) rfl; have c2 := H.cell 0 2 rfl (v := .int .u64 (s).b) rfl; have c3 := H.cell 0 3 rfl (v := .int .u64 (s).c) rfl; have c4 := H.cell 0 4 rfl (v := .int .u64 (s).d) rfl; have c5 := H.cell 0 5 rfl (v := .slice a ln c) rfl; have c6 := H.cell 0 6 rfl (v := .int .i64 (0)) rfl; have c7 := H.cell 0 7 rfl (v := .int .i64 (0)) rfl; try simp only [noSet] at c1 c2 c3 c4))
  have HB := hide H.below
  replace H := hide H
  go_loop [5, 6] (fun ov iv => ov = .bool false ∧ iv = .int .i64 0) (fun _ _ => 0)
  case atStart => exact ⟨rfl, rfl⟩
  case round =>
    obtain ⟨rfl, rfl⟩ := hrel
    by_cases lp : (0 : Int) < (ln : Int)
    · go_wp2_with fail
      go_ret
      exact ⟨rfl, HB.out⟩
    · go_wp2_with fail
      go_ret
      exact ⟨rfl, HB.out⟩
set_option maxHeartbeats 4000000 in
set_option maxRecDepth 100000 in
theorem ns2_n_pm  (s : S4) (hs : s ≠ noSet) (ln : Nat) (mn mx : Int) (hmn : ¬ mn = 0)  (a : Option Addr) (c : Nat) (w : World) : Calls Tryd.prog 41 #[reV (2) (s) (.slice a ln c) (mn) (mx)] w fun e w' => e = .returned (.bool false) ∧ Below w.heap.size w w' := by
  have H := St.start Nope w
  have ky := fun w => eql24_yes w
  have kg := guard25
  have ks := fun w => eql24_no hs w
  have mnb : (mn == 0) = false := by simpa using hmn
  go_enter Tryd.func41, Tryd.ntmps41
  go_wp2_with (first | ((with_reducible refine at_box 27 ?_); refine wl_box28 H rfl ?_; clear H; intro g w1 H q1 q2; have c0 := H.cell 0 0 rfl (v := .int .i64 (2)) rfl; have c1 := H.cell 0 1 rfl (v := .int .u64 (s).a) rfl; have c2 := H.cell 0 2 rfl (v := .int .u64 (s).b) rfl; have c3 := H.cell 0 3 rfl (v := .int .u64 (s).c) rfl; have c4 := H.cell 0 4 rfl (v := .int .u64 (s).d) rfl; have c5 := H.cell 0 5 rfl (v := .slice a ln c) rfl; have c6 := H.cell 0 6 rfl (v := .int .i64 (mn)) rfl; have c7 := H.cell 0 7 rfl (v := .int .i64 (mx)) rfl; try simp only [noSet] at c1 c2 c3 c4))
  have HB := hide H.below
  replace H := hide H
  go_loop [5, 6] (fun ov iv => ov = .bool false ∧ iv = .int .i64 0) (fun _ _ => 0)
  case atStart => exact ⟨rfl, rfl⟩
  case round =>
    obtain ⟨rfl, rfl⟩ := hrel
    by_cases lp : (0 : Int) < (ln : Int)
    · go_wp2_with fail
      go_ret
      exact ⟨rfl, HB.out⟩
    · go_wp2_with fail
      go_ret
      exact ⟨rfl, HB.out⟩
set_option maxHeartbeats 4000000 in
set_option maxRecDepth 100000 in
theorem ns2_e_pm   (ln : Nat) (mn mx : Int) (hmn : ¬ mn = 0)  (a : Option Addr) (c : Nat) (w : World) : Calls Tryd.prog 41 #[reV (2) (noSet) (.slice a ln c) (mn) (mx)] w fun e w' => e = .returned (.bool false) ∧ Below w.heap.size w w' := by
  have H := St.start Nope w
  have ky := fun w => eql24_yes w
  have kg := guard25
  have mnb : (mn == 0) = false := by simpa using hmn
  go_enter Tryd.func41, Tryd.ntmps41
  go_wp2_with (first | ((with_reducible refine at_box 27 ?_); refine wl_box28 H rfl ?_; clear H; intro g w1 H q1 q2; have c0 := H.cell 0 0 rfl (v := .int .i64 (2)) rfl; have c1 := H.cell 0 1 rfl (v := .int .u64 (noSet).a) rfl; have c2 := H.cell 0 2 rfl (v := .int .u64 (noSet).b) rfl; have c3 := H.cell 0 3 rfl (v := .int .u64 (noSet).c) rfl; have c4 := H.cell 0 4 rfl (v := .int .u64 (noSet).d) rfl; have c5 := H.cell 0 5 rfl (v := .slice a ln c) rfl; have c6 := H.cell 0 6 rfl (v := .int .i64 (mn)) rfl; have c7 := H.cell 0 7 rfl (v := .int .i64 (mx)) rfl; try simp only [noSet] at c1 c2 c3 c4))
  have HB := hide H.below
  replace H := hide H
  go_loop [5, 6] (fun ov iv => ov = .bool false ∧ iv = .int .i64 0) (fun _ _ => 0)
  case atStart => exact ⟨rfl, rfl⟩
  case round =>
    obtain ⟨rfl, rfl⟩ := hrel
    by_cases lp : (0 : Int) < (ln : Int)
    · go_wp2_with fail
      go_ret
      exact ⟨rfl, HB.out⟩
    · go_wp2_with fail
      go_ret
      exact ⟨rfl, HB.out⟩
set_option maxHeartbeats 4000000 in
set_option maxRecDepth 100000 in
theorem ns2_n_px  (s : S4) (hs : s ≠ noSet) (ln : Nat) (mx : Int) (hmx : ¬ mx = 0)  (a : Option Addr) (c : Nat) (w : World) : Calls Tryd.prog 41 #[reV (2) (s) (.slice a ln c) (0) (mx)] w fun e w' => e = .returned (.bool false) ∧ Below w.heap.size w w' := by
  have H := St.start Nope w
  have ky := fun w => eql24_yes w
  have kg := guard25
  have ks := fun w => eql24_no hs w
  have mxb : (mx == 0) = false := by simpa using hmx
  go_enter Tryd.func41, Tryd.ntmps41
  go_wp2_with (first | ((with_reducible refine at_box 27 ?_); refine wl_box28 H rfl ?_; clear H; intro g w1 H q1 q2; have c0 := H.cell 0 0 rfl (v := .int .i64 (2)) rfl; have c1 := H.cell 0 1 rfl (v := .int .u64 (s).a) rfl; have c2 := H.cell 0 2 rfl (v := .int .u64 (s).b) rfl; have c3 := H.cell 0 3 rfl (v := .int .u64 (s).c) rfl; have c4 := H.cell 0 4 rfl (v := .int .u64 (s).d) rfl; have c5 := H.cell 0 5 rfl (v := .slice a ln c) rfl; have c6 := H.cell 0 6 rfl (v := .int .i64 (0)) rfl; have c7 := H.cell 0 7 rfl (v := .int .i64 (mx)) rfl; try simp only [noSet] at c1 c2 c3 c4))
  have HB := hide H.below
  replace H := hide H
  go_loop [5, 6] (fun ov iv => ov = .bool false ∧ iv = .int .i64 0) (fun _ _ => 0)
  case atStart => exact ⟨rfl, rfl⟩
  case round =>
    obtain ⟨rfl, rfl⟩ := hrel
    by_cases lp : (0 : Int) < (ln : Int)
    · go_wp2_with fail
      go_ret
      exact ⟨rfl, HB.out⟩
    · go_wp2_with fail
      go_ret
      exact ⟨rfl, HB.out⟩
set_option maxHeartbeats 4000000 in
set_option maxRecDepth 100000 in
theorem ns2_e_px   (ln : Nat) (mx : Int) (hmx : ¬ mx = 0)  (a : Option Addr) (c : Nat) (w : World) : Calls Tryd.prog 41 #[reV (2) (noSet) (.slice a ln c) (0) (mx)] w fun e w' => e = .returned (.bool false) ∧ Below w.heap.size w w' := by
  have H := St.start Nope w
  have ky := fun w => eql24_yes w
  have kg := guard25
  have mxb : (mx == 0) = false := by simpa using hmx
  go_enter Tryd.func41, Tryd.ntmps41
  go_wp2_with (first | ((with_reducible refine at_box 27 ?_); refine wl_box28 H rfl ?_; clear H; intro g w1 H q1 q2; have c0 := H.cell 0 0 rfl (v := .int .i64 (2)) rfl; have c1 := H.cell 0 1 rfl (v := .int .u64 (noSet).a) rfl; have c2 := H.cell 0 2 rfl (v := .int .u64 (noSet).b) rfl; have c3 := H.cell 0 3 rfl (v := .int .u64 (noSet).c) rfl; have c4 := H.cell 0 4 rfl (v := .int .u64 (noSet).d) rfl; have c5 := H.cell 0 5 rfl (v := .slice a ln c) rfl; have c6 := H.cell 0 6 rfl (v := .int .i64 (0)) rfl; have c7 := H.cell 0 7 rfl (v := .int .i64 (mx)) rfl; try simp only [noSet] at c1 c2 c3 c4))
  have HB := hide H.below
  replace H := hide H
  go_loop [5, 6] (fun ov iv => ov = .bool false ∧ iv = .int .i64 0) (fun _ _ => 0)
  case atStart => exact ⟨rfl, rfl⟩
  case round =>
    obtain ⟨rfl, rfl⟩ := hrel
    by_cases lp : (0 : Int) < (ln : Int)
    · go_wp2_with fail
      go_ret
      exact ⟨rfl, HB.out⟩
    · go_wp2_with fail
      go_ret
      exact ⟨rfl, HB.out⟩
set_option maxHeartbeats 4000000 in
set_option maxRecDepth 100000 in
theorem ns3_n_p00  (s : S4) (hs : s ≠ noSet) (ln : Nat)   (a : Option Addr) (c : Nat) (w : World) : Calls Tryd.prog 41 #[reV (3) (s) (.slice a ln c) (0) (0)] w fun e w' => e = .returned (.bool false) ∧ Below w.heap.size w w' := by
  have H := St.start Nope w
  have ky := fun w => eql24_yes w
  have kg := guard25
  have ks := fun w => eql24_no hs w
  go_enter Tryd.func41, Tryd.ntmps41
  go_wp2_with (first | ((with_reducible refine at_box 27 ?_); refine wl_box28 H rfl ?_; clear H; intro g w1 H q1 q2; have c0 := H.cell 0 0 rfl (v := .int .i64 (3)) rfl; have c1 := H.cell 0 1 rfl (v := .int .u64 (s).a) rfl; have c2 := H.cell 0 2 rfl (v := .int .u64 (s).b) rfl; have c3 := H.cell 0 3 rfl (v := .int .u64 (s).c) rfl; have c4 := H.cell 0 4 rfl (v := .int .u64 (s).d) rfl; have c5 := H.cell 0 5 rfl (v := .slice a ln c) rfl; have c6 := H.cell 0 6 rfl (v := .int .i64 (0)) rfl; have c7 := H.cell 0 7 rfl (v := .int .i64 (0)) rfl; try simp only [noSet] at c1 c2 c3 c4))
  have HB := hide H.below
  replace H := hide H
  go_loop [5, 6] (fun ov iv => ov = .bool false ∧ iv = .int .i64 0) (fun _ _ => 0)
  case atStart => exact ⟨rfl, rfl⟩
  case round =>
    obtain ⟨rfl, rfl⟩ := hrel
    by_cases lp : (0 : Int) < (ln : Int)
    · go_wp2_with fail
      go_ret
      exact ⟨rfl, HB.out⟩
    · go_wp2_with fail
      go_ret
      exact ⟨rfl, HB.out⟩
set_option maxHeartbeats 4000000 in
set_option maxRecDepth 100000 in
theorem ns3_n_pm  (s : S4) (hs : s ≠ noSet) (ln : Nat) (mn mx : Int) (hmn : ¬ mn = 0)  (a : Option Addr) (c : Nat) (w : World) : Calls Tryd.prog 41 #[reV (3) (s) (.slice a ln c) (mn) (mx)] w fun e w' => e = .returned (.bool false) ∧ Below w.heap.size w w' := by
  have H := St.start Nope w
  have ky := fun w => eql24_yes w
  have kg := guard25
  have ks := fun w => eql24_no hs w
  have mnb : (mn == 0) = false := by simpa using hmn
  go_enter Tryd.func41, Tryd.ntmps41
  go_wp2_with (first | ((with_reducible refine at_box 27 ?_); refine wl_box28 H rfl ?_; clear H; intro g w1 H q1 q2; have c0 := H.cell 0 0 rfl (v := .int .i64 (3)) rfl; have c1 := H.cell 0 1 rfl (v := .int .u64 (s).a) rfl; have c2 := H.cell 0 2 rfl (v := .int .u64 (s).b) rfl; have c3 := H.cell 0 3 rfl (v := .int .u64 (s).c) rfl; have c4 := H.cell 0 4 rfl (v := .int .u64 (s).d) rfl; have c5 := H.cell 0 5 rfl (v := .slice a ln c) rfl; have c6 := H.cell 0 6 rfl (v := .int .i64 (mn)) rfl; have c7 := H.cell 0 7 rfl (v := .int .i64 (mx)) rfl; try simp only [noSet] at c1 c2 c3 c4))
  have HB := hide H.below
  replace H := hide H
  go_loop [5, 6] (fun ov iv => ov = .bool false ∧ iv = .int .i64 0) (fun _ _ => 0)
  case atStart => exact ⟨rfl, rfl⟩
  case round =>
    obtain ⟨rfl, rfl⟩ := hrel
    by_cases lp : (0 : Int) < (ln : Int)
    · go_wp2_with fail
      go_ret
      exact ⟨rfl, HB.out⟩
    · go_wp2_with fail
      go_ret
      exact ⟨rfl, HB.out⟩
set_option maxHeartbeats 4000000 in
set_option maxRecDepth 100000 in
theorem ns3_e_pm   (ln : Nat) (mn mx : Int) (hmn : ¬ mn = 0)  (a : Option Addr) (c : Nat) (w : World) : Calls Tryd.prog 41 #[reV (3) (noSet) (.slice a ln c) (mn) (mx)] w fun e w' => e = .returned (.bool false) ∧ Below w.heap.size w w' := by
  have H := St.start Nope w
  have ky := fun w => eql24_yes w
  have kg := guard25
  have mnb : (mn == 0) = false := by simpa using hmn
  go_enter Tryd.func41, Tryd.ntmps41
  go_wp2_with (first | ((with_reducible refine at_box 27 ?_); refine wl_box28 H rfl ?_; clear H; intro g w1 H q1 q2; have c0 := H.cell 0 0 rfl (v := .int .i64 (3)) rfl; have c1 := H.cell 0 1 rfl (v := .int .u64 (noSet).a) rfl; have c2 := H.cell 0 2 rfl (v := .int .u64 (noSet).b) rfl; have c3 := H.cell 0 3 rfl (v := .int .u64 (noSet).c) rfl; have c4 := H.cell 0 4 rfl (v := .int .u64 (noSet).d) rfl; have c5 := H.cell 0 5 rfl (v := .slice a ln c) rfl; have c6 := H.cell 0 6 rfl (v := .int .i64 (mn)) rfl; have c7 := H.cell 0 7 rfl (v := .int .i64 (mx)) rfl; try simp only [noSet] at c1 c2 c3 c4))
  have HB := hide H.below
  replace H := hide H
  go_loop [5, 6] (fun ov iv => ov = .bool false ∧ iv = .int .i64 0) (fun _ _ => 0)
  case atStart => exact ⟨rfl, rfl⟩
  case round =>
    obtain ⟨rfl, rfl⟩ := hrel
    by_cases lp : (0 : Int) < (ln : Int)
    · go_wp2_with fail
      go_ret
      exact ⟨rfl, HB.out⟩
    · go_wp2_with fail
      go_ret
      exact ⟨rfl, HB.out⟩
set_option maxHeartbeats 4000000 in
set_option maxRecDepth 100000 in
theorem ns3_n_px  (s : S4) (hs : s ≠ noSet) (ln : Nat) (mx : Int) (hmx : ¬ mx = 0)  (a : Option Addr) (c : Nat) (w : World) : Calls Tryd.prog 41 #[reV (3) (s) (.slice a ln c) (0) (mx)] w fun e w' => e = .returned (.bool false) ∧ Below w.heap.size w w' := by
  have H := St.start Nope w
  have ky := fun w => eql24_yes w
  have kg := guard25
  have ks := fun w => eql24_no hs w
  have mxb : (mx == 0) = false := by simpa using hmx
  go_enter Tryd.func41, Tryd.ntmps41
  go_wp2_with (first | ((with_reducible refine at_box 27 ?_); refine wl_box28 H rfl ?_; clear H; intro g w1 H q1 q2; have c0 := H.cell 0 0 rfl (v := .int .i64 (3)) rfl; have c1 := H.cell 0 1 rfl (v := .int .u64 (s).a) rfl; have c2 := H.cell 0 2 rfl (v := .int .u64 (s).b) rfl; have c3 := H.cell 0 3 rfl (v := .int .u64 (s).c) rfl; have c4 := H.cell 0 4 rfl (v := .int .u64 (s).d) rfl; have c5 := H.cell 0 5 rfl (v := .slice a ln c) rfl; have c6 := H.cell 0 6 rfl (v := .int .i64 (0)) rfl; have c7 := H.cell 0 7 rfl (v := .int .i64 (mx)) rfl; try simp only [noSet] at c1 c2 c3 c4))
  have HB := hide H.below
  replace H := hide H
  go_loop [5, 6] (fun ov iv => ov = .bool false ∧ iv = .int .i64 0) (fun _ _ => 0)
  case atStart => exact ⟨rfl, rfl⟩
  case round =>
    obtain ⟨rfl, rfl⟩ := hrel
    by_cases lp : (0 : Int) < (ln : Int)
    · go_wp2_with fail
      go_ret
      exact ⟨rfl, HB.out⟩
    · go_wp2_with fail
      go_ret
      exact ⟨rfl, HB.out⟩
set_option maxHeartbeats 4000000 in
set_option maxRecDepth 100000 in
theorem ns3_e_px   (ln : Nat) (mx : Int) (hmx : ¬ mx = 0)  (a : Option Addr) (c : Nat) (w : World) : Calls Tryd.prog 41 #[reV (3) (noSet) (.slice a ln c) (0) (mx)] w fun e w' => e = .returned (.bool false) ∧ Below w.heap.size w w' := by
  have H := St.start Nope w
  have ky := fun w => eql24_yes w
  have kg := guard25
  have mxb : (mx == 0) = false := by simpa using hmx
  go_enter Tryd.func41, Tryd.ntmps41
  go_wp2_with (first | ((with_reducible refine at_box 27 ?_); refine wl_box28 H rfl ?_; clear H; intro g w1 H q1 q2; have c0 := H.cell 0 0 rfl (v := .int .i64 (3)) rfl; have c1 := H.cell 0 1 rfl (v := .int .u64 (noSet).a) rfl; have c2 := H.cell 0 2 rfl (v := .int .u64 (noSet).b) rfl; have c3 := H.cell 0 3 rfl (v := .int .u64 (noSet).c) rfl; have c4 := H.cell 0 4 rfl (v := .int .u64 (noSet).d) rfl; have c5 := H.cell 0 5 rfl (v := .slice a ln c) rfl; have c6 := H.cell 0 6 rfl (v := .int .i64 (0)) rfl; have c7 := H.cell 0 7 rfl (v := .int .i64 (mx)) rfl; try simp only [noSet] at c1 c2 c3 c4))
  have HB := hide H.below
  replace H := hide H
  go_loop [5, 6] (fun ov iv => ov = .bool false ∧ iv = .int .i64 0) (fun _ _ => 0)
  case atStart => exact ⟨rfl, rfl⟩
  case round =>
    obtain ⟨rfl, rfl⟩ := hrel
    by_cases lp : (0 : Int) < (ln : Int)
    · go_wp2_with fail
      go_ret
      exact ⟨rfl, HB.out⟩
    · go_wp2_with fail
      go_ret
      exact ⟨rfl, HB.out⟩
set_option maxHeartbeats 4000000 in
set_option maxRecDepth 100000 in
theorem ns4a_e_p00   (ln : Nat) (hl : ¬ ln = 1)   (a : Option Addr) (c : Nat) (w : World) : Calls Tryd.prog 41 #[reV (4) (noSet) (.slice a ln c) (0) (0)] w fun e w' => e = .returned (.bool false) ∧ Below w.heap.size w w' := by
  have H := St.start Nope w
  have ky := fun w => eql24_yes w
  have kg := guard25
  have hb : ((ln : Int) == 1) = false := beq_eq_false_iff_ne.2 (by omega)
  have hc : ¬ ((ln : Int) = 1) := by omega
  go_enter Tryd.func41, Tryd.ntmps41
  go_wp2_with (first | ((with_reducible refine at_box 27 ?_); refine wl_box28 H rfl ?_; clear H; intro g w1 H q1 q2; have c0 := H.cell 0 0 rfl (v := .int .i64 (4)) rfl; have c1 := H.cell 0 1 rfl (v := .int .u64 (noSet).a) rfl; have c2 := H.cell 0 2 rfl (v := .int .u64 (noSet).b) rfl; have c3 := H.cell 0 3 rfl (v := .int .u64 (noSet).c) rfl; have c4 := H.cell 0 4 rfl (v := .int .u64 (noSet).d) rfl; have c5 := H.cell 0 5 rfl (v := .slice a ln c) rfl; have c6 := H.cell 0 6 rfl (v := .int .i64 (0)) rfl; have c7 := H.cell 0 7 rfl (v := .int .i64 (0)) rfl; try simp only [noSet] at c1 c2 c3 c4))
  have HB := hide H.below
  replace H := hide H
  go_loop [5, 6] (fun ov iv => ov = .bool false ∧ iv = .int .i64 0) (fun _ _ => 0)
  case atStart => exact ⟨rfl, rfl⟩
  case round =>
    obtain ⟨rfl, rfl⟩ := hrel
    by_cases lp : (0 : Int) < (ln : Int)
    · go_wp2_with fail
      go_ret
      exact ⟨rfl, HB.out⟩
    · go_wp2_with fail
      go_ret
      exact ⟨rfl, HB.out⟩
set_option maxHeartbeats 4000000 in
set_option maxRecDepth 100000 in
theorem ns0_e_p00 (k : Int) (h1 : ¬ k = 1) (h2 : ¬ k = 2) (h3 : ¬ k = 3) (h4 : ¬ k = 4)  (ln : Nat)   (a : Option Addr) (c : Nat) (w : World) : Calls Tryd.prog 41 #[reV (k) (noSet) (.slice a ln c) (0) (0)] w fun e w' => e = .returned (.bool false) ∧ Below w.heap.size w w' := by
  have H := St.start Nope w
  have ky := fun w => eql24_yes w
  have kg := guard25
  have h1b : (k == 1) = false := by simpa using h1
  have h2b : (k == 2) = false := by simpa using h2
  have h3b : (k == 3) = false := by simpa using h3
  have h4b : (k == 4) = false := by simpa using h4
  go_enter Tryd.func41, Tryd.ntmps41
  go_wp2_with (first | ((with_reducible refine at_box 27 ?_); refine wl_box28 H rfl ?_; clear H; intro g w1 H q1 q2; have c0 := H.cell 0 0 rfl (v := .int .i64 (k)) rfl; have c1 := H.cell 0 1 rfl (v := .int .u64 (noSet).a) rfl; have c2 := H.cell 0 2 rfl (v := .int .u64 (noSet).b) rfl; have c3 := H.cell 0 3 rfl (v := .int .u64 (noSet).c) rfl; have c4 := H.cell 0 4 rfl (v := .int .u64 (noSet).d) rfl; have c5 := H.cell 0 5 rfl (v := .slice a ln c) rfl; have c6 := H.cell 0 6 rfl (v := .int .i64 (0)) rfl; have c7 := H.cell 0 7 rfl (v := .int .i64 (0)) rfl; try simp only [noSet] at c1 c2 c3 c4))
  go_ret
  exact ⟨rfl, H.below⟩
set_option maxHeartbeats 4000000 in
set_option maxRecDepth 100000 in
theorem ns4a_e_pm   (ln : Nat) (hl : ¬ ln = 1) (mn mx : Int) (hmn : ¬ mn = 0)  (a : Option Addr) (c : Nat) (w : World) : Calls Tryd.prog 41 #[reV (4) (noSet) (.slice a ln c) (mn) (mx)] w fun e w' => e = .returned (.bool false) ∧ Below w.heap.size w w' := by
  have H := St.start Nope w
  have ky := fun w => eql24_yes w
  have kg := guard25
  have mnb : (mn == 0) = false := by simpa using hmn
  have hb : ((ln : Int) == 1) = false := beq_eq_false_iff_ne.2 (by omega)
  have hc : ¬ ((ln : Int) = 1) := by omega
  go_enter Tryd.func41, Tryd.ntmps41
  go_wp2_with (first | ((with_reducible refine at_box 27 ?_); refine wl_box28 H rfl ?_; clear H; intro g w1 H q1 q2; have c0 := H.cell 0 0 rfl (v := .int .i64 (4)) rfl; have c1 := H.cell 0 1 rfl (v := .int .u64 (noSet).a) rfl; have c2 := H.cell 0 2 rfl (v := .int .u64 (noSet).b) rfl; have c3 := H.cell 0 3 rfl (v := .int .u64 (noSet).c) rfl; have c4 := H.cell 0 4 rfl (v := .int .u64 (noSet).d) rfl; have c5 := H.cell 0 5 rfl (v := .slice a ln c) rfl; have c6 := H.cell 0 6 rfl (v := .int .i64 (mn)) rfl; have c7 := H.cell 0 7 rfl (v := .int .i64 (mx)) rfl; try simp only [noSet] at c1 c2 c3 c4))
  have HB := hide H.below
  replace H := hide H
  go_loop [5, 6] (fun ov iv => ov = .bool false ∧ iv = .int .i64 0) (fun _ _ => 0)
  case atStart => exact ⟨rfl, rfl⟩
  case round =>
    obtain ⟨rfl, rfl⟩ := hrel
    by_cases lp : (0 : Int) < (ln : Int)
    · go_wp2_with fail
      go_ret
      exact ⟨rfl, HB.out⟩
    · go_wp2_with fail
      go_ret
      exact ⟨rfl, HB.out⟩
set_option maxHeartbeats 4000000 in
set_option maxRecDepth 100000 in
theorem ns0_e_pm (k : Int) (h1 : ¬ k = 1) (h2 : ¬ k = 2) (h3 : ¬ k = 3) (h4 : ¬ k = 4)  (ln : Nat) (mn mx : Int) (hmn : ¬ mn = 0)  (a : Option Addr) (c : Nat) (w : World) : Calls Tryd.prog 41 #[reV (k) (noSet) (.slice a ln c) (mn) (mx)] w fun e w' => e = .returned (.bool false) ∧ Below w.heap.size w w' := by
  have H := St.start Nope w
  have ky := fun w => eql24_yes w
  have kg := guard25
  have h1b : (k == 1) = false := by simpa using h1
  have h2b : (k == 2) = false := by simpa using h2
  have h3b : (k == 3) = false := by simpa using h3
  have h4b : (k == 4) = false := by simpa using h4
  have mnb : (mn == 0) = false := by simpa using hmn
  go_enter Tryd.func41, Tryd.ntmps41
  go_wp2_with (first | ((with_reducible refine at_box 27 ?_); refine wl_box28 H rfl ?_; clear H; intro g w1 H q1 q2; have c0 := H.cell 0 0 rfl (v := .int .i64 (k)) rfl; have c1 := H.cell 0 1 rfl (v := .int .u64 (noSet).a) rfl; have c2 := H.cell 0 2 rfl (v := .int .u64 (noSet).b) rfl; have c3 := H.cell 0 3 rfl (v := .int .u64 (noSet).c) rfl; have c4 := H.cell 0 4 rfl (v := .int .u64 (noSet).d) rfl; have c5 := H.cell 0 5 rfl (v := .slice a ln c) rfl; have c6 := H.cell 0 6 rfl (v := .int .i64 (mn)) rfl; have c7 := H.cell 0 7 rfl (v := .int .i64 (mx)) rfl; try simp only [noSet] at c1 c2 c3 c4))
  go_ret
  exact ⟨rfl, H.below⟩
set_option maxHeartbeats 4000000 in
set_option maxRecDepth 100000 in
theorem ns4a_e_px   (ln : Nat) (hl : ¬ ln = 1) (mx : Int) (hmx : ¬ mx = 0)  (a : Option Addr) (c : Nat) (w : World) : Calls Tryd.prog 41 #[reV (4) (noSet) (.slice a ln c) (0) (mx)] w fun e w' => e = .returned (.bool false) ∧ Below w.heap.size w w' := by
  have H := St.start Nope w
  have ky := fun w => eql24_yes w
  have kg := guard25
  have mxb : (mx == 0) = false := by simpa using hmx
  have hb : ((ln : Int) == 1) = false := beq_eq_false_iff_ne.2 (by omega)
  have hc : ¬ ((ln : Int) = 1) := by omega
  go_enter Tryd.func41, Tryd.ntmps41
  go_wp2_with (first | ((with_reducible refine at_box 27 ?_); refine wl_box28 H rfl ?_; clear H; intro g w1 H q1 q2; have c0 := H.cell 0 0 rfl (v := .int .i64 (4)) rfl; have c1 := H.cell 0 1 rfl (v := .int .u64 (noSet).a) rfl; have c2 := H.cell 0 2 rfl (v := .int .u64 (noSet).b) rfl; have c3 := H.cell 0 3 rfl (v := .int .u64 (noSet).c) rfl; have c4 := H.cell 0 4 rfl (v := .int .u64 (noSet).d) rfl; have c5 := H.cell 0 5 rfl (v := .slice a ln c) rfl; have c6 := H.cell 0 6 rfl (v := .int .i64 (0)) rfl; have c7 := H.cell 0 7 rfl (v := .int .i64 (mx)) rfl; try simp only [noSet] at c1 c2 c3 c4))
  have HB := hide H.below
  replace H := hide H
  go_loop [5, 6] (fun ov iv => ov = .bool false ∧ iv = .int .i64 0) (fun _ _ => 0)
  case atStart => exact ⟨rfl, rfl⟩
  case round =>
    obtain ⟨rfl, rfl⟩ := hrel
    by_cases lp : (0 : Int) < (ln : Int)
    · go_wp2_with fail
      go_ret
      exact ⟨rfl, HB.out⟩
    · go_wp2_with fail
      go_ret
      exact ⟨rfl, HB.out⟩
set_option maxHeartbeats 4000000 in
set_option maxRecDepth 100000 in
theorem ns0_e_px (k : Int) (h1 : ¬ k = 1) (h2 : ¬ k = 2) (h3 : ¬ k = 3) (h4 : ¬ k = 4)  (ln : Nat) (mx : Int) (hmx : ¬ mx = 0)  (a : Option Addr) (c : Nat) (w : World) : Calls Tryd.prog 41 #[reV (k) (noSet) (.slice a ln c) (0) (mx)] w fun e w' => e = .returned (.bool false) ∧ Below w.heap.size w w' := by
  have H := St.start Nope w
  have ky := fun w => eql24_yes w
  have kg := guard25
  have h1b : (k == 1) = false := by simpa using h1
  have h2b : (k == 2) = false := by simpa using h2
  have h3b : (k == 3) = false := by simpa using h3
  have h4b : (k == 4) = false := by simpa using h4
  have mxb : (mx == 0) = false := by simpa using hmx
  go_enter Tryd.func41, Tryd.ntmps41
  go_wp2_with (first | ((with_reducible refine at_box 27 ?_); refine wl_box28 H rfl ?_; clear H; intro g w1 H q1 q2; have c0 := H.cell 0 0 rfl (v := .int .i64 (k)) rfl; have c1 := H.cell 0 1 rfl (v := .int .u64 (noSet).a) rfl; have c2 := H.cell 0 2 rfl (v := .int .u64 (noSet).b) rfl; have c3 := H.cell 0 3 rfl (v := .int .u64 (noSet).c) rfl; have c4 := H.cell 0 4 rfl (v := .int .u64 (noSet).d) rfl; have c5 := H.cell 0 5 rfl (v := .slice a ln c) rfl; have c6 := H.cell 0 6 rfl (v := .int .i64 (0)) rfl; have c7 := H.cell 0 7 rfl (v := .int .i64 (mx)) rfl; try simp only [noSet] at c1 c2 c3 c4))
  go_ret
  exact ⟨rfl, H.below⟩
set_option maxHeartbeats 4000000 in
set_option maxRecDepth 100000 in
theorem ns4a_n_p00  (s : S4) (hs : s ≠ noSet) (ln : Nat) (hl : ¬ ln = 1)   (a : Option Addr) (c : Nat) (w : World) : Calls Tryd.prog 41 #[reV (4) (s) (.slice a ln c) (0) (0)] w fun e w' => e = .returned (.bool false) ∧ Below w.heap.size w w' := by
  have H := St.start Nope w
  have ky := fun w => eql24_yes w
  have kg := guard25
  have ks := fun w => eql24_no hs w
  have hb : ((ln : Int) == 1) = false := beq_eq_false_iff_ne.2 (by omega)
  have hc : ¬ ((ln : Int) = 1) := by omega
  go_enter Tryd.func41, Tryd.ntmps41
  go_wp2_with (first | ((with_reducible refine at_box 27 ?_); refine wl_box28 H rfl ?_; clear H; intro g w1 H q1 q2; have c0 := H.cell 0 0 rfl (v := .int .i64 (4)) rfl; have c1 := H.cell 0 1 rfl (v := .int .u64 (s).a) rfl; have c2 := H.cell 0 2 rfl (v := .int .u64 (s).b) rfl; have c3 := H.cell 0 3 rfl (v := .int .u64 (s).c) rfl; have c4 := H.cell 0 4 rfl (v := .int .u64 (s).d) rfl; have c5 := H.cell 0 5 rfl (v := .slice a ln c) rfl; have c6 := H.cell 0 6 rfl (v := .int .i64 (0)) rfl; have c7 := H.cell 0 7 rfl (v := .int .i64 (0)) rfl; try simp only [noSet] at c1 c2 c3 c4))
  have HB := hide H.below
  replace H := hide H
  go_loop [5, 6] (fun ov iv => ov = .bool false ∧ iv = .int .i64 0) (fun _ _ => 0)
  case atStart => exact ⟨rfl, rfl⟩
  case round =>
    obtain ⟨rfl, rfl⟩ := hrel
    by_cases lp : (0 : Int) < (ln : Int)
    · go_wp2_with fail
      go_ret
      exact ⟨rfl, HB.out⟩
    · go_wp2_with fail
      go_ret
      exact ⟨rfl, HB.out⟩
set_option maxHeartbeats 4000000 in
set_option maxRecDepth 100000 in
theorem ns4b_p00  (s : S4) (hs : s ≠ noSet)    (a : Option Addr) (c : Nat) (w : World) : Calls Tryd.prog 41 #[reV (4) (s) (.slice a 1 c) (0) (0)] w fun e w' => e = .returned (.bool false) ∧ Below w.heap.size w w' := by
  have H := St.start Nope w
  have ky := fun w => eql24_yes w
  have kg := guard25
  have ks := fun w => eql24_no hs w
  go_enter Tryd.func41, Tryd.ntmps41
  go_wp2_with (first | ((with_reducible refine at_box 27 ?_); refine wl_box28 H rfl ?_; clear H; intro g w1 H q1 q2; have c0 := H.cell 0 0 rfl (v := .int .i64 (4)) rfl; have c1 := H.cell 0 1 rfl (v := .int .u64 (s).a) rfl; have c2 := H.cell 0 2 rfl (v := .int .u64 (s).b) rfl; have c3 := H.cell 0 3 rfl (v := .int .u64 (s).c) rfl; have c4 := H.cell 0 4 rfl (v := .int .u64 (s).d) rfl; have c5 := H.cell 0 5 rfl (v := .slice a 1 c) rfl; have c6 := H.cell 0 6 rfl (v := .int .i64 (0)) rfl; have c7 := H.cell 0 7 rfl (v := .int .i64 (0)) rfl; try simp only [noSet] at c1 c2 c3 c4))
  have HB := hide H.below
  replace H := hide H
  go_loop [5, 6] (fun ov iv => ov = .bool false ∧ iv = .int .i64 0) (fun _ _ => 0)
  case atStart => exact ⟨rfl, rfl⟩
  case round =>
    obtain ⟨rfl, rfl⟩ := hrel
    go_wp2_with fail
    go_ret
    exact ⟨rfl, HB.out⟩
set_option maxHeartbeats 4000000 in
set_option maxRecDepth 100000 in
theorem ns0_n_p00 (k : Int) (h1 : ¬ k = 1) (h2 : ¬ k = 2) (h3 : ¬ k = 3) (h4 : ¬ k = 4) (s : S4) (hs : s ≠ noSet) (ln : Nat)   (a : Option Addr) (c : Nat) (w : World) : Calls Tryd.prog 41 #[reV (k) (s) (.slice a ln c) (0) (0)] w fun e w' => e = .returned (.bool false) ∧ Below w.heap.size w w' := by
  have H := St.start Nope w
  have ky := fun w => eql24_yes w
  have kg := guard25
  have h1b : (k == 1) = false := by simpa using h1
  have h2b : (k == 2) = false := by simpa using h2
  have h3b : (k == 3) = false := by simpa using h3
  have h4b : (k == 4) = false := by simpa using h4
  have ks := fun w => eql24_no hs w
  go_enter Tryd.func41, Tryd.ntmps41
  go_wp2_with (first | ((with_reducible refine at_box 27 ?_); refine wl_box28 H rfl ?_; clear H; intro g w1 H q1 q2; have c0 := H.cell 0 0 rfl (v := .int .i64 (k)) rfl; have c1 := H.cell 0 1 rfl (v := .int .u64 (s).a) rfl; have c2 := H.cell 0 2 rfl (v := .int .u64 (s).b) rfl; have c3 := H.cell 0 3 rfl (v := .int .u64 (s).c) rfl; have c4 := H.cell 0 4 rfl (v := .int .u64 (s).d) rfl; have c5 := H.cell 0 5 rfl (v := .slice a ln c) rfl; have c6 := H.cell 0 6 rfl (v := .int .i64 (0)) rfl; have c7 := H.cell 0 7 rfl (v := .int .i64 (0)) rfl; try simp only [noSet] at c1 c2 c3 c4))
  go_ret
  exact ⟨rfl, H.below⟩
set_option maxHeartbeats 4000000 in
set_option maxRecDepth 100000 in
theorem ns4a_n_pm  (s : S4) (hs : s ≠ noSet) (ln : Nat) (hl : ¬ ln = 1) (mn mx : Int) (hmn : ¬ mn = 0)  (a : Option Addr) (c : Nat) (w : World) : Calls Tryd.prog 41 #[reV (4) (s) (.slice a ln c) (mn) (mx)] w fun e w' => e = .returned (.bool false) ∧ Below w.heap.size w w' := by
  have H := St.start Nope w
  have ky := fun w => eql24_yes w
  have kg := guard25
  have ks := fun w => eql24_no hs w
  have mnb : (mn == 0) = false := by simpa using hmn
  have hb : ((ln : Int) == 1) = false := beq_eq_false_iff_ne.2 (by omega)
  have hc : ¬ ((ln : Int) = 1) := by omega
  go_enter Tryd.func41, Tryd.ntmps41
  go_wp2_with (first | ((with_reducible refine at_box 27 ?_); refine wl_box28 H rfl ?_; clear H; intro g w1 H q1 q2; have c0 := H.cell 0 0 rfl (v := .int .i64 (4)) rfl; have c1 := H.cell 0 1 rfl (v := .int .u64 (s).a) rfl; have c2 := H.cell 0 2 rfl (v := .int .u64 (s).b) rfl; have c3 := H.cell 0 3 rfl (v := .int .u64 (s).c) rfl; have c4 := H.cell 0 4 rfl (v := .int .u64 (s).d) rfl; have c5 := H.cell 0 5 rfl (v := .slice a ln c) rfl; have c6 := H.cell 0 6 rfl (v := .int .i64 (mn)) rfl; have c7 := H.cell 0 7 rfl (v := .int .i64 (mx)) rfl; try simp only [noSet] at c1 c2 c3 c4))
  have HB := hide H.below
  replace H := hide H
  go_loop [5, 6] (fun ov iv => ov = .bool false ∧ iv = .int .i64 0) (fun _ _ => 0)
  case atStart => exact ⟨rfl, rfl⟩
  case round =>
    obtain ⟨rfl, rfl⟩ := hrel
    by_cases lp : (0 : Int) < (ln : Int)
    · go_wp2_with fail
      go_ret
      exact ⟨rfl, HB.out⟩
    · go_wp2_with fail
      go_ret
      exact ⟨rfl, HB.out⟩
set_option maxHeartbeats 4000000 in
set_option maxRecDepth 100000 in
theorem ns4b_pm  (s : S4) (hs : s ≠ noSet)  (mn mx : Int) (hmn : ¬ mn = 0)  (a : Option Addr) (c : Nat) (w : World) : Calls Tryd.prog 41 #[reV (4) (s) (.slice a 1 c) (mn) (mx)] w fun e w' => e = .returned (.bool false) ∧ Below w.heap.size w w' := by
  have H := St.start Nope w
  have ky := fun w => eql24_yes w
  have kg := guard25
  have ks := fun w => eql24_no hs w
  have mnb : (mn == 0) = false := by simpa using hmn
  go_enter Tryd.func41, Tryd.ntmps41
  go_wp2_with (first | ((with_reducible refine at_box 27 ?_); refine wl_box28 H rfl ?_; clear H; intro g w1 H q1 q2; have c0 := H.cell 0 0 rfl (v := .int .i64 (4)) rfl; have c1 := H.cell 0 1 rfl (v := .int .u64 (s).a) rfl; have c2 := H.cell 0 2 rfl (v := .int .u64 (s).b) rfl; have c3 := H.cell 0 3 rfl (v := .int .u64 (s).c) rfl; have c4 := H.cell 0 4 rfl (v := .int .u64 (s).d) rfl; have c5 := H.cell 0 5 rfl (v := .slice a 1 c) rfl; have c6 := H.cell 0 6 rfl (v := .int .i64 (mn)) rfl; have c7 := H.cell 0 7 rfl (v := .int .i64 (mx)) rfl; try simp only [noSet] at c1 c2 c3 c4))
  have HB := hide H.below
  replace H := hide H
  go_loop [5, 6] (fun ov iv => ov = .bool false ∧ iv = .int .i64 0) (fun _ _ => 0)
  case atStart => exact ⟨rfl, rfl⟩
  case round =>
    obtain ⟨rfl, rfl⟩ := hrel
    go_wp2_with fail
    go_ret
    exact ⟨rfl, HB.out⟩
set_option maxHeartbeats 4000000 in
set_option maxRecDepth 100000 in
theorem ns0_n_pm (k : Int) (h1 : ¬ k = 1) (h2 : ¬ k = 2) (h3 : ¬ k = 3) (h4 : ¬ k = 4) (s : S4) (hs : s ≠ noSet) (ln : Nat) (mn mx : Int) (hmn : ¬ mn = 0)  (a : Option Addr) (c : Nat) (w : World) : Calls Tryd.prog 41 #[reV (k) (s) (.slice a ln c) (mn) (mx)] w fun e w' => e = .returned (.bool false) ∧ Below w.heap.size w w' := by
  have H := St.start Nope w
  have ky := fun w => eql24_yes w
  have kg := guard25
  have h1b : (k == 1) = false := by simpa using h1
  have h2b : (k == 2) = false := by simpa using h2
  have h3b : (k == 3) = false := by simpa using h3
  have h4b : (k == 4) = false := by simpa using h4
  have ks := fun w => eql24_no hs w
  have mnb : (mn == 0) = false := by simpa using hmn
  go_enter Tryd.func41, Tryd.ntmps41
  go_wp2_with (first | ((with_reducible refine at_box 27 ?_); refine wl_box28 H rfl ?_; clear H; intro g w1 H q1 q2; have c0 := H.cell 0 0 rfl (v := .int .i64 (k)) rfl; have c1 := H.cell 0 1 rfl (v := .int .u64 (s).a) rfl; have c2 := H.cell 0 2 rfl (v := .int .u64 (s).b) rfl; have c3 := H.cell 0 3 rfl (v := .int .u64 (s).c) rfl; have c4 := H.cell 0 4 rfl (v := .int .u64 (s).d) rfl; have c5 := H.cell 0 5 rfl (v := .slice a ln c) rfl; have c6 := H.cell 0 6 rfl (v := .int .i64 (mn)) rfl; have c7 := H.cell 0 7 rfl (v := .int .i64 (mx)) rfl; try simp only [noSet] at c1 c2 c3 c4))
  go_ret
  exact ⟨rfl, H.below⟩
set_option maxHeartbeats 4000000 in
set_option maxRecDepth 100000 in
theorem ns4a_n_px  (s : S4) (hs : s ≠ noSet) (ln : Nat) (hl : ¬ ln = 1) (mx : Int) (hmx : ¬ mx = 0)  (a : Option Addr) (c : Nat) (w : World) : Calls Tryd.prog 41 #[reV (4) (s) (.slice a ln c) (0) (mx)] w fun e w' => e = .returned (.bool false) ∧ Below w.heap.size w w' := by
  have H := St.start Nope w
  have ky := fun w => eql24_yes w
  have kg := guard25
  have ks := fun w => eql24_no hs w
  have mxb : (mx == 0) = false := by simpa using hmx
  have hb : ((ln : Int) == 1) = false := beq_eq_false_iff_ne.2 (by omega)
  have hc : ¬ ((ln : Int) = 1) := by omega
  go_enter Tryd.func41, Tryd.ntmps41
  go_wp2_with (first | ((with_reducible refine at_box 27 ?_); refine wl_box28 H rfl ?_; clear H; intro g w1 H q1 q2; have c0 := H.cell 0 0 rfl (v := .int .i64 (4)) rfl; have c1 := H.cell 0 1 rfl (v := .int .u64 (s).a) rfl; have c2 := H.cell 0 2 rfl (v := .int .u64 (s).b) rfl; have c3 := H.cell 0 3 rfl (v := .int .u64 (s).c) rfl; have c4 := H.cell 0 4 rfl (v := .int .u64 (s).d) rfl; have c5 := H.cell 0 5 rfl (v := .slice a ln c) rfl; have c6 := H.cell 0 6 rfl (v := .int .i64 (0)) rfl; have c7 := H.cell 0 7 rfl (v := .int .i64 (mx)) rfl; try simp only [noSet] at c1 c2 c3 c4))
  have HB := hide H.below
  replace H := hide H
  go_loop [5, 6] (fun ov iv => ov = .bool false ∧ iv = .int .i64 0) (fun _ _ => 0)
  case atStart => exact ⟨rfl, rfl⟩
  case round =>
    obtain ⟨rfl, rfl⟩ := hrel
    by_cases lp : (0 : Int) < (ln : Int)
    · go_wp2_with fail
      go_ret
      exact ⟨rfl, HB.out⟩
    · go_wp2_with fail
      go_ret
      exact ⟨rfl, HB.out⟩
set_option maxHeartbeats 4000000 in
set_option maxRecDepth 100000 in
theorem ns4b_px  (s : S4) (hs : s ≠ noSet)  (mx : Int) (hmx : ¬ mx = 0)  (a : Option Addr) (c : Nat) (w : World) : Calls Tryd.prog 41 #[reV (4) (s) (.slice a 1 c) (0) (mx)] w fun e w' => e = .returned (.bool false) ∧ Below w.heap.size w w' := by
  have H := St.start Nope w
  have ky := fun w => eql24_yes w
  have kg := guard25
  have ks := fun w => eql24_no hs w
  have mxb : (mx == 0) = false := by simpa using hmx
  go_enter Tryd.func41, Tryd.ntmps41
  go_wp2_with (first | ((with_reducible refine at_box 27 ?_); refine wl_box28 H rfl ?_; clear H; intro g w1 H q1 q2; have c0 := H.cell 0 0 rfl (v := .int .i64 (4)) rfl; have c1 := H.cell 0 1 rfl (v := .int .u64 (s).a) rfl; have c2 := H.cell 0 2 rfl (v := .int .u64 (s).b) rfl; have c3 := H.cell 0 3 rfl (v := .int .u64 (s).c) rfl; have c4 := H.cell 0 4 rfl (v := .int .u64 (s).d) rfl; have c5 := H.cell 0 5 rfl (v := .slice a 1 c) rfl; have c6 := H.cell 0 6 rfl (v := .int .i64 (0)) rfl; have c7 := H.cell 0 7 rfl (v := .int .i64 (mx)) rfl; try simp only [noSet] at c1 c2 c3 c4))
  have HB := hide H.below
  replace H := hide H
  go_loop [5, 6] (fun ov iv => ov = .bool false ∧ iv = .int .i64 0) (fun _ _ => 0)
  case atStart => exact ⟨rfl, rfl⟩
  case round =>
    obtain ⟨rfl, rfl⟩ := hrel
    go_wp2_with fail
    go_ret
    exact ⟨rfl, HB.out⟩
set_option maxHeartbeats 4000000 in
set_option maxRecDepth 100000 in
theorem ns0_n_px (k : Int) (h1 : ¬ k = 1) (h2 : ¬ k = 2) (h3 : ¬ k = 3) (h4 : ¬ k = 4) (s : S4) (hs : s ≠ noSet) (ln : Nat) (mx : Int) (hmx : ¬ mx = 0)  (a : Option Addr) (c : Nat) (w : World) : Calls Tryd.prog 41 #[reV (k) (s) (.slice a ln c) (0) (mx)] w fun e w' => e = .returned (.bool false) ∧ Below w.heap.size w w' := by
  have H := St.start Nope w
  have ky := fun w => eql24_yes w
  have kg := guard25
  have h1b : (k == 1) = false := by simpa using h1
  have h2b : (k == 2) = false := by simpa using h2
  have h3b : (k == 3) = false := by simpa using h3
  have h4b : (k == 4) = false := by simpa using h4
  have ks := fun w => eql24_no hs w
  have mxb : (mx == 0) = false := by simpa using hmx
  go_enter Tryd.func41, Tryd.ntmps41
  go_wp2_with (first | ((with_reducible refine at_box 27 ?_); refine wl_box28 H rfl ?_; clear H; intro g w1 H q1 q2; have c0 := H.cell 0 0 rfl (v := .int .i64 (k)) rfl; have c1 := H.cell 0 1 rfl (v := .int .u64 (s).a) rfl; have c2 := H.cell 0 2 rfl (v := .int .u64 (s).b) rfl; have c3 := H.cell 0 3 rfl (v := .int .u64 (s).c) rfl; have c4 := H.cell 0 4 rfl (v := .int .u64 (s).d) rfl; have c5 := H.cell 0 5 rfl (v := .slice a ln c) rfl; have c6 := H.cell 0 6 rfl (v := .int .i64 (0)) rfl; have c7 := H.cell 0 7 rfl (v := .int .i64 (mx)) rfl; try simp only [noSet] at c1 c2 c3 c4))
  go_ret
  exact ⟨rfl, H.below⟩
set_option maxHeartbeats 4000000 in
set_option maxRecDepth 100000 in
theorem ns4c    (mn mx : Int) (hmn : ¬ mn = 0) (h : mn < 0) (a : Option Addr) (c : Nat) (w : World) : Calls Tryd.prog 41 #[reV (4) (noSet) (.slice a 1 c) (mn) (mx)] w fun e w' => e = .returned (.bool false) ∧ Below w.heap.size w w' := by
  have H := St.start Nope w
  have ky := fun w => eql24_yes w
  have kg := guard25
  have mnb : (mn == 0) = false := by simpa using hmn
  have x1 : ¬ ((0 : Int) ≤ mn) := by omega
  have x2 : decide ((0 : Int) ≤ mn) = false := by simp; omega
  go_enter Tryd.func41, Tryd.ntmps41
  go_wp2_with (first | ((with_reducible refine at_box 27 ?_); refine wl_box28 H rfl ?_; clear H; intro g w1 H q1 q2; have c0 := H.cell 0 0 rfl (v := .int .i64 (4)) rfl; have c1 := H.cell 0 1 rfl (v := .int .u64 (noSet).a) rfl; have c2 := H.cell 0 2 rfl (v := .int .u64 (noSet).b) rfl; have c3 := H.cell 0 3 rfl (v := .int .u64 (noSet).c) rfl; have c4 := H.cell 0 4 rfl (v := .int .u64 (noSet).d) rfl; have c5 := H.cell 0 5 rfl (v := .slice a 1 c) rfl; have c6 := H.cell 0 6 rfl (v := .int .i64 (mn)) rfl; have c7 := H.cell 0 7 rfl (v := .int .i64 (mx)) rfl; try simp only [noSet] at c1 c2 c3 c4))
  have HB := hide H.below
  replace H := hide H
  go_loop [5, 6] (fun ov iv => ov = .bool false ∧ iv = .int .i64 0) (fun _ _ => 0)
  case atStart => exact ⟨rfl, rfl⟩
  case round =>
    obtain ⟨rfl, rfl⟩ := hrel
    go_wp2_with fail
    go_ret
    exact ⟨rfl, HB.out⟩
set_option maxHeartbeats 4000000 in
set_option maxRecDepth 100000 in
theorem ns4d    (mn mx : Int) (hmn : ¬ mn = 0) (h0 : 0 ≤ mn) (h : 64 < mn) (a : Option Addr) (c : Nat) (w : World) : Calls Tryd.prog 41 #[reV (4) (noSet) (.slice a 1 c) (mn) (mx)] w fun e w' => e = .returned (.bool false) ∧ Below w.heap.size w w' := by
  have H := St.start Nope w
  have ky := fun w => eql24_yes w
  have kg := guard25
  have mnb : (mn == 0) = false := by simpa using hmn
  have x1 : ¬ (mn ≤ (64 : Int)) := by omega
  have x2 : decide (mn ≤ (64 : Int)) = false := by simp; omega
  have x3 : decide ((0 : Int) ≤ mn) = true := by simp; omega
  go_enter Tryd.func41, Tryd.ntmps41
  go_wp2_with (first | ((with_reducible refine at_box 27 ?_); refine wl_box28 H rfl ?_; clear H; intro g w1 H q1 q2; have c0 := H.cell 0 0 rfl (v := .int .i64 (4)) rfl; have c1 := H.cell 0 1 rfl (v := .int .u64 (noSet).a) rfl; have c2 := H.cell 0 2 rfl (v := .int .u64 (noSet).b) rfl; have c3 := H.cell 0 3 rfl (v := .int .u64 (noSet).c) rfl; have c4 := H.cell 0 4 rfl (v := .int .u64 (noSet).d) rfl; have c5 := H.cell 0 5 rfl (v := .slice a 1 c) rfl; have c6 := H.cell 0 6 rfl (v := .int .i64 (mn)) rfl; have c7 := H.cell 0 7 rfl (v := .int .i64 (mx)) rfl; try simp only [noSet] at c1 c2 c3 c4))
  have HB := hide H.below
  replace H := hide H
  go_loop [5, 6] (fun ov iv => ov = .bool false ∧ iv = .int .i64 0) (fun _ _ => 0)
  case atStart => exact ⟨rfl, rfl⟩
  case round =>
    obtain ⟨rfl, rfl⟩ := hrel
    go_wp2_with fail
    go_ret
    exact ⟨rfl, HB.out⟩
set_option maxHeartbeats 4000000 in
set_option maxRecDepth 100000 in
theorem ns4e_pm    (mn mx : Int) (hmn : ¬ mn = 0) (h0 : 0 ≤ mn) (h1 : mn ≤ 64) (h : 64 < mx) (a : Option Addr) (c : Nat) (w : World) : Calls Tryd.prog 41 #[reV (4) (noSet) (.slice a 1 c) (mn) (mx)] w fun e w' => e = .returned (.bool false) ∧ Below w.heap.size w w' := by
  have H := St.start Nope w
  have ky := fun w => eql24_yes w
  have kg := guard25
  have mnb : (mn == 0) = false := by simpa using hmn
  have x1 : ¬ (mx ≤ (64 : Int)) := by omega
  have x2 : decide (mx ≤ (64 : Int)) = false := by simp; omega
  have x3 : decide ((0 : Int) ≤ mn) = true := by simp; omega
  have x4 : decide (mn ≤ (64 : Int)) = true := by simp; omega
  go_enter Tryd.func41, Tryd.ntmps41
  go_wp2_with (first | ((with_reducible refine at_box 27 ?_); refine wl_box28 H rfl ?_; clear H; intro g w1 H q1 q2; have c0 := H.cell 0 0 rfl (v := .int .i64 (4)) rfl; have c1 := H.cell 0 1 rfl (v := .int .u64 (noSet).a) rfl; have c2 := H.cell 0 2 rfl (v := .int .u64 (noSet).b) rfl; have c3 := H.cell 0 3 rfl (v := .int .u64 (noSet).c) rfl; have c4 := H.cell 0 4 rfl (v := .int .u64 (noSet).d) rfl; have c5 := H.cell 0 5 rfl (v := .slice a 1 c) rfl; have c6 := H.cell 0 6 rfl (v := .int .i64 (mn)) rfl; have c7 := H.cell 0 7 rfl (v := .int .i64 (mx)) rfl; try simp only [noSet] at c1 c2 c3 c4))
  have HB := hide H.below
  replace H := hide H
  go_loop [5, 6] (fun ov iv => ov = .bool false ∧ iv = .int .i64 0) (fun _ _ => 0)
  case atStart => exact ⟨rfl, rfl⟩
  case round =>
    obtain ⟨rfl, rfl⟩ := hrel
    go_wp2_with fail
    go_ret
    exact ⟨rfl, HB.out⟩
set_option maxHeartbeats 4000000 in
set_option maxRecDepth 100000 in
theorem ns4e_px    (mx : Int) (hmx : ¬ mx = 0) (h : 64 < mx) (a : Option Addr) (c : Nat) (w : World) : Calls Tryd.prog 41 #[reV (4) (noSet) (.slice a 1 c) (0) (mx)] w fun e w' => e = .returned (.bool false) ∧ Below w.heap.size w w' := by
  have H := St.start Nope w
  have ky := fun w => eql24_yes w
  have kg := guard25
  have mxb : (mx == 0) = false := by simpa using hmx
  have x1 : ¬ (mx ≤ (64 : Int)) := by omega
  have x2 : decide (mx ≤ (64 : Int)) = false := by simp; omega
  go_enter Tryd.func41, Tryd.ntmps41
  go_wp2_with (first | ((with_reducible refine at_box 27 ?_); refine wl_box28 H rfl ?_; clear H; intro g w1 H q1 q2; have c0 := H.cell 0 0 rfl (v := .int .i64 (4)) rfl; have c1 := H.cell 0 1 rfl (v := .int .u64 (noSet).a) rfl; have c2 := H.cell 0 2 rfl (v := .int .u64 (noSet).b) rfl; have c3 := H.cell 0 3 rfl (v := .int .u64 (noSet).c) rfl; have c4 := H.cell 0 4 rfl (v := .int .u64 (noSet).d) rfl; have c5 := H.cell 0 5 rfl (v := .slice a 1 c) rfl; have c6 := H.cell 0 6 rfl (v := .int .i64 (0)) rfl; have c7 := H.cell 0 7 rfl (v := .int .i64 (mx)) rfl; try simp only [noSet] at c1 c2 c3 c4))
  have HB := hide H.below
  replace H := hide H
  go_loop [5, 6] (fun ov iv => ov = .bool false ∧ iv = .int .i64 0) (fun _ _ => 0)
  case atStart => exact ⟨rfl, rfl⟩
  case round =>
    obtain ⟨rfl, rfl⟩ := hrel
    go_wp2_with fail
    go_ret
    exact ⟨rfl, HB.out⟩
set_option maxHeartbeats 4000000 in
set_option maxRecDepth 100000 in
theorem ns4f_pm    (mn mx : Int) (hmn : ¬ mn = 0) (h0 : 0 ≤ mn) (h1 : mn ≤ 64) (h2 : mx ≤ 64) (h3 : ¬ mx = -1) (h : mx < mn) (a : Option Addr) (c : Nat) (w : World) : Calls Tryd.prog 41 #[reV (4) (noSet) (.slice a 1 c) (mn) (mx)] w fun e w' => e = .returned (.bool false) ∧ Below w.heap.size w w' := by
  have H := St.start Nope w
  have ky := fun w => eql24_yes w
  have kg := guard25
  have mnb : (mn == 0) = false := by simpa using hmn
  have h3b : (mx == -1) = false := by simpa using h3
  have x1 : ¬ (mn ≤ mx) := by omega
  have x2 : decide (mn ≤ mx) = false := by simp; omega
  have x3 : decide ((0 : Int) ≤ mn) = true := by simp; omega
  have x4 : decide (mn ≤ (64 : Int)) = true := by simp; omega
  have x5 : decide (mx ≤ (64 : Int)) = true := by simp; omega
  go_enter Tryd.func41, Tryd.ntmps41
  go_wp2_with (first | ((with_reducible refine at_box 27 ?_); refine wl_box28 H rfl ?_; clear H; intro g w1 H q1 q2; have c0 := H.cell 0 0 rfl (v := .int .i64 (4)) rfl; have c1 := H.cell 0 1 rfl (v := .int .u64 (noSet).a) rfl; have c2 := H.cell 0 2 rfl (v := .int .u64 (noSet).b) rfl; have c3 := H.cell 0 3 rfl (v := .int .u64 (noSet).c) rfl; have c4 := H.cell 0 4 rfl (v := .int .u64 (noSet).d) rfl; have c5 := H.cell 0 5 rfl (v := .slice a 1 c) rfl; have c6 := H.cell 0 6 rfl (v := .int .i64 (mn)) rfl; have c7 := H.cell 0 7 rfl (v := .int .i64 (mx)) rfl; try simp only [noSet] at c1 c2 c3 c4))
  have HB := hide H.below
  replace H := hide H
  go_loop [5, 6] (fun ov iv => ov = .bool false ∧ iv = .int .i64 0) (fun _ _ => 0)
  case atStart => exact ⟨rfl, rfl⟩
  case round =>
    obtain ⟨rfl, rfl⟩ := hrel
    go_wp2_with fail
    go_ret
    exact ⟨rfl, HB.out⟩
set_option maxHeartbeats 4000000 in
set_option maxRecDepth 100000 in
theorem ns4f_px    (mx : Int) (hmx : ¬ mx = 0) (h2 : mx ≤ 64) (h3 : ¬ mx = -1) (h : mx < 0) (a : Option Addr) (c : Nat) (w : World) : Calls Tryd.prog 41 #[reV (4) (noSet) (.slice a 1 c) (0) (mx)] w fun e w' => e = .returned (.bool false) ∧ Below w.heap.size w w' := by
  have H := St.start Nope w
  have ky := fun w => eql24_yes w
  have kg := guard25
  have mxb : (mx == 0) = false := by simpa using hmx
  have h3b : (mx == -1) = false := by simpa using h3
  have x1 : ¬ ((0 : Int) ≤ mx) := by omega
  have x2 : decide ((0 : Int) ≤ mx) = false := by simp; omega
  have x5 : decide (mx ≤ (64 : Int)) = true := by simp; omega
  go_enter Tryd.func41, Tryd.ntmps41
  go_wp2_with (first | ((with_reducible refine at_box 27 ?_); refine wl_box28 H rfl ?_; clear H; intro g w1 H q1 q2; have c0 := H.cell 0 0 rfl (v := .int .i64 (4)) rfl; have c1 := H.cell 0 1 rfl (v := .int .u64 (noSet).a) rfl; have c2 := H.cell 0 2 rfl (v := .int .u64 (noSet).b) rfl; have c3 := H.cell 0 3 rfl (v := .int .u64 (noSet).c) rfl; have c4 := H.cell 0 4 rfl (v := .int .u64 (noSet).d) rfl; have c5 := H.cell 0 5 rfl (v := .slice a 1 c) rfl; have c6 := H.cell 0 6 rfl (v := .int .i64 (0)) rfl; have c7 := H.cell 0 7 rfl (v := .int .i64 (mx)) rfl; try simp only [noSet] at c1 c2 c3 c4))
  have HB := hide H.below
  replace H := hide H
  go_loop [5, 6] (fun ov iv => ov = .bool false ∧ iv = .int .i64 0) (fun _ _ => 0)
  case atStart => exact ⟨rfl, rfl⟩
  case round =>
    obtain ⟨rfl, rfl⟩ := hrel
    go_wp2_with fail
    go_ret
    exact ⟨rfl, HB.out⟩
end Go.Proofs.YtkgegjnkkbgghaaDoor
