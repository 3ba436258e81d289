/-
  isFit of a pattern that may be.
-/
import Derived.Test.YtkfdikpnnkbgaaaGreatDoorX
import Derived.Laws.StructEq
namespace Go.Proofs.YtkfdikpnnkbgaaaGreatDoor
open Go.RowKit Go.Shelf
set_option linter.unusedVariables false
set_option linter.unusedSimpArgs false

theorem neq25 (w : World) : (binOp .neq 24 (.agg #[.int .u64 0, .int .u64 0, .int .u64 0, .int .u64 0]) (.agg #[.int .u64 0, .int .u64 0, .int .u64 0, .int .u64 0])).run Tryz.prog w = .ok (.bool false) w := by kernel_rfl
theorem guard25 : Tryz.prog.eqGuardType Tryz.prog.depth 24 = false := by kernel_rfl
set_option maxHeartbeats 4000000 in
theorem fit_1 (s : S4) (a : Option Addr) (c : Nat) (w : World) : Calls Tryz.prog 90 #[reV 1 s (.slice a 0 c) 0 0] w fun e w' => e = .returned (.bool true) ∧ Below w.heap.size w w' := by
  have H := St.start Nope w
  have kn := fun w => neq25 w
  have kg := guard25
  go_enter Tryz.func90, Tryz.ntmps90
  go_wp2_with (first | ((with_reducible refine at_box 27 ?_); refine wl_box28 H rfl ?_; clear H; intro g w' H q1 q2; have c0 := H.cell 0 0 rfl (v := .int .i64 (1)) rfl; have c1 := H.cell 0 1 rfl (v := .int .u64 (s).a) rfl; have c2 := H.cell 0 2 rfl (v := .int .u64 (s).b) rfl; have c3 := H.cell 0 3 rfl (v := .int .u64 (s).c) rfl; have c4 := H.cell 0 4 rfl (v := .int .u64 (s).d) rfl; have c5 := H.cell 0 5 rfl (v := .slice a 0 c) rfl; have c6 := H.cell 0 6 rfl (v := .int .i64 (0)) rfl; have c7 := H.cell 0 7 rfl (v := .int .i64 (0)) rfl; try simp only [noSet] at c1 c2 c3 c4))
  go_ret
  exact ⟨rfl, H.below⟩
set_option maxHeartbeats 4000000 in
theorem fit_2 (a : Option Addr) (n c : Nat) (w : World) : Calls Tryz.prog 90 #[reV 2 noSet (.slice a n c) 0 0] w fun e w' => e = .returned (.bool true) ∧ Below w.heap.size w w' := by
  have H := St.start Nope w
  have kn := fun w => neq25 w
  have kg := guard25
  go_enter Tryz.func90, Tryz.ntmps90
  go_wp2_with (first | ((with_reducible refine at_box 27 ?_); refine wl_box28 H rfl ?_; clear H; intro g w' H q1 q2; have c0 := H.cell 0 0 rfl (v := .int .i64 (2)) rfl; have c1 := H.cell 0 1 rfl (v := .int .u64 (noSet).a) rfl; have c2 := H.cell 0 2 rfl (v := .int .u64 (noSet).b) rfl; have c3 := H.cell 0 3 rfl (v := .int .u64 (noSet).c) rfl; have c4 := H.cell 0 4 rfl (v := .int .u64 (noSet).d) rfl; have c5 := H.cell 0 5 rfl (v := .slice a n c) rfl; have c6 := H.cell 0 6 rfl (v := .int .i64 (0)) rfl; have c7 := H.cell 0 7 rfl (v := .int .i64 (0)) rfl; try simp only [noSet] at c1 c2 c3 c4))
  go_ret
  exact ⟨rfl, H.below⟩
set_option maxHeartbeats 4000000 in
theorem fit_3 (a : Option Addr) (n c : Nat) (w : World) : Calls Tryz.prog 90 #[reV 3 noSet (.slice a n c) 0 0] w fun e w' => e = .returned (.bool true) ∧ Below w.heap.size w w' := by
  have H := St.start Nope w
  have kn := fun w => neq25 w
  have kg := guard25
  go_enter Tryz.func90, Tryz.ntmps90
  go_wp2_with (first | ((with_reducible refine at_box 27 ?_); refine wl_box28 H rfl ?_; clear H; intro g w' H q1 q2; have c0 := H.cell 0 0 rfl (v := .int .i64 (3)) rfl; have c1 := H.cell 0 1 rfl (v := .int .u64 (noSet).a) rfl; have c2 := H.cell 0 2 rfl (v := .int .u64 (noSet).b) rfl; have c3 := H.cell 0 3 rfl (v := .int .u64 (noSet).c) rfl; have c4 := H.cell 0 4 rfl (v := .int .u64 (noSet).d) rfl; have c5 := H.cell 0 5 rfl (v := .slice a n c) rfl; have c6 := H.cell 0 6 rfl (v := .int .i64 (0)) rfl; have c7 := H.cell 0 7 rfl (v := .int .i64 (0)) rfl; try simp only [noSet] at c1 c2 c3 c4))
  go_ret
  exact ⟨rfl, H.below⟩
set_option maxHeartbeats 4000000 in
theorem fit_4 (a : Option Addr) (c : Nat) (mn mx : Int) (h : arT mn mx = true) (w : World) : Calls Tryz.prog 90 #[reV 4 noSet (.slice a 1 c) mn mx] w fun e w' => e = .returned (.bool true) ∧ Below w.heap.size w w' := by
  have H := St.start Nope w
  have kn := fun w => neq25 w
  have kg := guard25
  go_enter Tryz.func90, Tryz.ntmps90
  go_wp2_with (first | ((with_reducible refine at_box 27 ?_); refine wl_box28 H rfl ?_; clear H; intro g w' H q1 q2; have c0 := H.cell 0 0 rfl (v := .int .i64 (4)) rfl; have c1 := H.cell 0 1 rfl (v := .int .u64 (noSet).a) rfl; have c2 := H.cell 0 2 rfl (v := .int .u64 (noSet).b) rfl; have c3 := H.cell 0 3 rfl (v := .int .u64 (noSet).c) rfl; have c4 := H.cell 0 4 rfl (v := .int .u64 (noSet).d) rfl; have c5 := H.cell 0 5 rfl (v := .slice a 1 c) rfl; have c6 := H.cell 0 6 rfl (v := .int .i64 (mn)) rfl; have c7 := H.cell 0 7 rfl (v := .int .i64 (mx)) rfl; try simp only [noSet] at c1 c2 c3 c4))
  refine (areTimes_any mn mx _).mono ?_
  rintro e w1 ⟨rfl, rfl⟩
  rw [h]
  go_wp2_with fail
  go_ret
  exact ⟨rfl, H.below⟩
theorem isFit_any (n : Nd) (a : Option Addr) (len c : Nat) (h : fitN n len) (w : World) : Calls Tryz.prog 90 #[reV n.k n.s (.slice a len c) n.mn n.mx] w fun e w' => e = .returned (.bool true) ∧ Below w.heap.size w w' := by
  obtain ⟨h1, h2, h3, h4⟩ := h
  obtain ⟨k, s, mn, mx⟩ := n
  simp only at *
  rcases h4 with ⟨rfl, rfl⟩ | rfl | rfl | rfl
  · obtain ⟨rfl, rfl⟩ := h3 (by decide)
    exact fit_1 s a c w
  · obtain ⟨rfl, rfl⟩ := h3 (by decide)
    obtain rfl := h1 (by decide)
    exact fit_2 a len c w
  · obtain ⟨rfl, rfl⟩ := h3 (by decide)
    obtain rfl := h1 (by decide)
    exact fit_3 a len c w
  · obtain rfl := h1 (by decide)
    obtain ⟨rfl, ha⟩ := h2 rfl
    exact fit_4 a c mn mx ha w
end Go.Proofs.YtkfdikpnnkbgaaaGreatDoor
