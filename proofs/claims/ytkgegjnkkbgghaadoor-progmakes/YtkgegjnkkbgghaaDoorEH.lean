/-
  some: a pattern, cut.
-/
import Derived.Test.YtkgegjnkkbgghaaDoorEG
namespace Go.Proofs.YtkgegjnkkbgghaaDoor
open Go.RowKit
set_option linter.unusedVariables false
set_option linter.unusedSimpArgs false

/-- How some ends. -/
def SomeP (w : World) (e : Ending) (w' : World) : Prop := ∃ t u, e = .returned (reV t.1.k t.1.s u t.1.mn t.1.mx) ∧ TrV w' (fun b => w.heap.size ≤ b) (reV t.1.k t.1.s u t.1.mn t.1.mx) t ∧ szT t ≤ 100 ∧ Below w.heap.size w w'
set_option maxHeartbeats 2000000 in
set_option maxRecDepth 100000 in
theorem some_any (cs : Array Value) (w : World) (hA : ∀ d, ArgR w d cs.toList) : Calls Tryd.prog 8 #[.agg cs] w (SomeP w) := by
  obtain ⟨k, s, a, n, c, mn, mx, hcs, _⟩ := argR_cases (hA 0)
  obtain rfl : cs = reA k s (.slice a n c) mn mx := by
    apply Array.ext'
    exact hcs
  show Calls Tryd.prog 8 #[reV k s (.slice a n c) mn mx] w _
  have hA1 := hide (hA 130)
  clear hA hcs
  have H := St.start Nope w
  go_enter Tryd.func8, Tryd.ntmps8
  go_wp2_with (first | ((with_reducible refine at_box 27 ?_); refine wl_box28 H rfl ?_; clear H; intro g1 w1 H q1 q2) | ((with_reducible refine at_alloc 27 ?_); refine wl_alloc28 H ?_; clear H; intro g2 w2 H q3 q4) | ((with_reducible refine at_alloc 3 ?_); refine wl_alloc 3 #[.int .i64 0] H (fun w => run_alloc3 w) ?_; clear H; intro g3 w3 H q5 q6) | ((with_reducible refine at_store 3 ?_); refine wl_store1 0 0 3 (v := .int .i64 100) H rfl rfl rfl (by simp) one3 rfl ?_; clear H; intro w4 H) | ((with_reducible refine at_load 27 ?_); refine wl_load28 2 H rfl rfl ?_))
  have H4 : St Nope w w4 [(true, g3, 3, #[.int .i64 100]), (true, g2, 27, reA 0 noSet (.slice none 0 0) 0 0), (true, g1, 27, reA k s (.slice a n c) mn mx)] := H
  have hb4 := H4.below
  have l2 := H4.lti 1 rfl
  have hne : g2 ≠ g3 ∧ g1 ≠ g3 := by
    constructor <;> (intro e; have := H4.nd; simp [e] at this)
  have CU := cut_any w g3 q5 130 (Nat.le_refl _) (reA k s (.slice a n c) mn mx).toList 99 w4 hA1.out (by omega) (fun kk hkk => hb4.block kk hkk) (H4.get 0 rfl)
  replace CU := hide CU
  clear H
  replace H4 := hide H4
  replace hb4 := hide hb4
  refine CU.out.mono ?_
  rintro e w5 ⟨t, u, β', rfl, T, hbx, hs, B5⟩
  have hu : u.oneCell' = true := by
    obtain ⟨va, vn, vc, hx⟩ := T.val
    simp only [reV, reA, Value.agg.injEq] at hx
    have := congrArg (fun a => a[5]?) hx
    simp at this
    rw [this]
    rfl
  have hszw := hb4.out.size
  have H5 : St Nope w w5 [(true, g3, 3, #[.int .i64 ((β' : Nat) : Int)]), (true, g2, 27, reA 0 noSet (.slice none 0 0) 0 0), (true, g1, 27, reA k s (.slice a n c) mn mx)] := H4.out.callS B5 (fun i hi h => by omega) rfl (fun x hx => by
      rcases List.mem_cons.1 hx with rfl | hx
      · exact .inr hbx
      rcases List.mem_cons.1 hx with rfl | hx
      · exact .inl ⟨by simp, hne.1⟩
      rw [List.mem_singleton.1 hx]
      exact .inl ⟨by simp, hne.2⟩)
  have hT : Hid (TrV w5 (fun b => w4.heap.size ≤ b) (reV t.1.k t.1.s u t.1.mn t.1.mx) t) := T
  clear T B5
  have H5b : St (fun k => k = g2) w5 w5 [(true, g2, 27, reA 0 noSet (.slice none 0 0) 0 0)] := ⟨But.refl _ _, fun x hx => by rw [List.mem_singleton.1 hx]; exact H5.get 1 rfl, fun x hx _ _ => by rw [List.mem_singleton.1 hx], by simp⟩
  have hB5 := hide H5.below
  clear H5
  go_wp2_with (first | ((with_reducible refine at_store 27 ?_); refine wl_store28 0 H5b rfl rfl rfl hu ?_; intro w6 H6))
  refine bodyPost_ret (results_cell0 rfl _ _ g2 _ rfl (load28 (H6.get 0 rfl))) rfl ?_
  refine ⟨t, u, rfl, ?_, by omega, hB5.out.trans (H6.but.below hB5.out.size (fun k e => by omega))⟩
  exact (hT.out.kept (fun b hb hl => H6.but.block b hl (by omega))).mono (fun b _ hb => by omega)
/-- What Make, Count are told of is not too deep. -/
theorem dp_le_sz : ∀ f : Fo, f.dp ≤ f.sz
  | .nil => Nat.le_refl _
  | .cons n k r => by have := dp_le_sz k; have := dp_le_sz r; simp only [Fo.dp, Fo.sz]; omega
theorem dpT_le (t : Tr) : dpT t ≤ szT t := by have := dp_le_sz t.2; simp only [dpT, szT]; omega
end Go.Proofs.YtkgegjnkkbgghaaDoor
