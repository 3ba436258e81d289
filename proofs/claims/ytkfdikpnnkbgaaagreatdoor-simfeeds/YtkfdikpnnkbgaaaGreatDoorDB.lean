/-
  isFit of an instruction.
-/
import Derived.Test.YtkfdikpnnkbgaaaGreatDoorDA
namespace Go.Proofs.YtkfdikpnnkbgaaaGreatDoor
open Go.RowKit
set_option linter.unusedVariables false
set_option linter.unusedSimpArgs false

def inB (z b : Int) : Bool := decide (0 ≤ z) && decide (z < b)
def bnd (ex n j : Nat) : Int := if j < ex then (n : Int) else 1
/-- May an instruction be, in a program of so many? -/
def fitI (i : Ins) (n : Nat) : Bool := (i.op == 1 || (i.op == 2 || i.op == 3 || i.op == 4) && eqS i.s noSet) && (inB i.x (bnd (fm i.op).ex n 0) && inB i.y (bnd (fm i.op).ex n 1))
theorem inB_neg {z b : Int} (h : z < 0) : inB z b = false := by simp [inB]; omega
theorem inB_ge {z b : Int} (h : ¬ z < b) : inB z b = false := by simp [inB]; omega
theorem inB_ok {z b : Int} (h : ¬ z < 0) (h2 : z < b) : inB z b = true := by simp [inB]; omega
theorem guard24 : Tryz.prog.eqGuardType Tryz.prog.depth 24 = false := by kernel_rfl
theorem run_bs48 (x y : Int) (w : World) : (Instr.buildSlice 54 2 #[(0, .int .i64 x), (1, .int .i64 y)]).run Tryz.prog w = .ok (.slice (some ⟨w.heap.size, 0, none⟩) 2 2) (w.alloc (.cells #[.int .i64 x, .int .i64 y] 3)) := by kernel_rfl
section
variable {S : Nat → Prop} {w0 w w' : World} {L : List Ent} {ops : Array Oper} {rest : List Oper} {a : Act} {Q : Exit → Act → World → Prop} {dst : Option Nat} {p q : Operand} {ty : TypeId} {pos : String} {after : Array Edge}
theorem at_bs48 {ps : Array (Nat × Operand)} {n : Nat} (h : wpList Tryz.prog ops Q (⟨dst, .buildSlice 54 n ps, ty, pos, after, none⟩ :: rest) a w) : wpList Tryz.prog ops Q (⟨dst, .buildSlice 54 n ps, ty, pos, after, none⟩ :: rest) a w := h
theorem wl_bs48 (H : St S w0 w L) {x y : Int} (hx : a.eval p = .int .i64 x) (hy : a.eval q = .int .i64 y) (k : ∀ g w', St S w0 w' ((true, g, 3, #[.int .i64 x, .int .i64 y]) :: L) → w0.heap.size ≤ g → wpList Tryz.prog ops Q rest (a.put dst (.slice (some ⟨g, 0, none⟩) 2 2)) w') : wpList Tryz.prog ops Q (⟨dst, .buildSlice 54 2 #[(0, p), (1, q)], ty, pos, after, none⟩ :: rest) a w := by
  refine wl_val (w' := w.alloc (.cells #[.int .i64 x, .int .i64 y] 3)) ?_ (k _ _ (H.alloc 3 _) H.but.size)
  unfold execOp
  simp only [List.map_toArray, List.map_cons, List.map_nil, hx, hy, Sem.run_bind, run_bs48, Result.andThen_ok, Sem.run_pure]
end
set_option maxHeartbeats 2000000 in
set_option maxRecDepth 100000 in
theorem fitI_1 (s : S4) (x y : Int) (n : Nat) (w : World) : Calls Tryz.prog 79 #[fmV ⟨⟨#[98, 121, 116, 101]⟩, true, 1⟩, insV ⟨1, s, x, y⟩, .int .i64 (n : Int)] w fun e w' => e = .returned (.bool ((inB x (n : Int) && inB y 1))) ∧ Below w.heap.size w w' := by
  have H := St.start Nope w
  have kg := guard24
  generalize hres : (inB x (n : Int) && inB y 1) = res
  replace hres := hide hres
  go_enter Tryz.func79, Tryz.ntmps79
  go_wp2_with (first | ((with_reducible refine at_box 139 ?_); refine wl_boxF (f := ⟨⟨#[98, 121, 116, 101]⟩, true, 1⟩) H rfl ?_; clear H; intro g3 w3 H q1 q2) | ((with_reducible refine at_box 102 ?_); refine wl_boxI (i := ⟨1, s, x, y⟩) H rfl ?_; clear H; intro g4 w4 H q3 q4; have a0 := H.cell 1 0 rfl (v := .string ⟨#[98, 121, 116, 101]⟩) rfl; have a1 := H.cell 1 1 rfl (v := .bool true) rfl; have a2 := H.cell 1 2 rfl (v := .int .i64 1) rfl; have b1 := H.cell 0 1 rfl (v := .int .u64 s.a) rfl; have b2 := H.cell 0 2 rfl (v := .int .u64 s.b) rfl; have b3 := H.cell 0 3 rfl (v := .int .u64 s.c) rfl; have b4 := H.cell 0 4 rfl (v := .int .u64 s.d) rfl; have b5 := H.cell 0 5 rfl (v := .int .i64 x) rfl; have b6 := H.cell 0 6 rfl (v := .int .i64 y) rfl) | ((with_reducible refine at_bs48 ?_); refine wl_bs48 H (x := x) (y := y) rfl rfl ?_; clear H; intro g5 w5 H q5; clear a0 a1 a2 b1 b2 b3 b4 b5 b6; have a0 := H.cell 2 0 rfl (v := .string ⟨#[98, 121, 116, 101]⟩) rfl; have a1 := H.cell 2 1 rfl (v := .bool true) rfl; have a2 := H.cell 2 2 rfl (v := .int .i64 1) rfl; have b1 := H.cell 1 1 rfl (v := .int .u64 s.a) rfl; have b2 := H.cell 1 2 rfl (v := .int .u64 s.b) rfl; have b3 := H.cell 1 3 rfl (v := .int .u64 s.c) rfl; have b4 := H.cell 1 4 rfl (v := .int .u64 s.d) rfl; have b5 := H.cell 1 5 rfl (v := .int .i64 x) rfl; have b6 := H.cell 1 6 rfl (v := .int .i64 y) rfl; have d0 := H.cell 0 0 rfl (v := .int .i64 x) rfl; have d1 := H.cell 0 1 rfl (v := .int .i64 y) rfl))
  have HB := hide H.below
  replace H := hide H
  go_loop [30] (fun iv => ∃ j : Nat, j ≤ 2 ∧ iv = .int .i64 (j : Int) ∧ Hid (1 ≤ j → inB x (n : Int) = true) ∧ Hid (2 ≤ j → inB y 1 = true)) (fun iv => 2 - (intOf iv).toNat)
  case atStart => exact ⟨0, by omega, rfl, (fun h => by omega), (fun h => by omega)⟩
  case round =>
    obtain ⟨j, hj, rfl, h1, h2⟩ := hrel
    rcases (show j = 0 ∨ j = 1 ∨ j = 2 by omega) with rfl | rfl | rfl
    · by_cases hx : x < 0
      · go_wp2
        go_ret
        exact ⟨by rw [← hres.out, inB_neg hx]; rfl, HB.out⟩
      · by_cases hx2 : x < (n : Int)
        · have hx3 : ¬ ((n : Int) ≤ x) := by omega
          have hok := hide (inB_ok hx hx2)
          go_wp2
          go_round
          case rel => exact ⟨1, by omega, by go_num, (fun _ => hok.out), (fun h => by omega)⟩
          case measure => simp [intOf]
        · have hx3 : (n : Int) ≤ x := by omega
          have hno := hide (inB_ge hx2)
          go_wp2
          go_ret
          exact ⟨by rw [← hres.out, hno.out]; rfl, HB.out⟩
    · by_cases hy : y < 0
      · go_wp2
        go_ret
        exact ⟨by rw [← hres.out, inB_neg hy, Bool.and_false]; rfl, HB.out⟩
      · by_cases hy2 : y < 1
        · have hy3 : ¬ (1 ≤ y) := by omega
          have hok := hide (inB_ok hy hy2)
          go_wp2
          go_round
          case rel => exact ⟨2, by omega, by go_num, (fun _ => h1.out (by omega)), (fun _ => hok.out)⟩
          case measure => simp [intOf]
        · have hy3 : 1 ≤ y := by omega
          have hno := hide (inB_ge hy2)
          go_wp2
          go_ret
          exact ⟨by rw [← hres.out, hno.out, Bool.and_false]; rfl, HB.out⟩
    · go_wp2
      go_ret
      exact ⟨by rw [← hres.out, h1.out (by omega), h2.out (by omega)]; rfl, HB.out⟩
set_option maxHeartbeats 2000000 in
set_option maxRecDepth 100000 in
theorem fitI_2 (s : S4) (x y : Int) (n : Nat) (w : World) : Calls Tryz.prog 79 #[fmV ⟨⟨#[115, 112, 108, 105, 116]⟩, false, 2⟩, insV ⟨2, s, x, y⟩, .int .i64 (n : Int)] w fun e w' => e = .returned (.bool (eqS s noSet && (inB x (n : Int) && inB y (n : Int)))) ∧ Below w.heap.size w w' := by
  have H := St.start Nope w
  have kg := guard24
  cases hset : eqS s noSet with
  | false =>
    have kn : ∀ w, (binOp .neq 24 (.agg #[.int .u64 s.a, .int .u64 s.b, .int .u64 s.c, .int .u64 s.d]) (.agg #[.int .u64 0, .int .u64 0, .int .u64 0, .int .u64 0])).run Tryz.prog w = .ok (.bool true) w := fun w => by have := run_neq24 s noSet w; rw [hset] at this; exact this
    go_enter Tryz.func79, Tryz.ntmps79
    go_wp2_with (first | ((with_reducible refine at_box 139 ?_); refine wl_boxF (f := ⟨⟨#[115, 112, 108, 105, 116]⟩, false, 2⟩) H rfl ?_; clear H; intro g3 w3 H q1 q2) | ((with_reducible refine at_box 102 ?_); refine wl_boxI (i := ⟨2, s, x, y⟩) H rfl ?_; clear H; intro g4 w4 H q3 q4; have a0 := H.cell 1 0 rfl (v := .string ⟨#[115, 112, 108, 105, 116]⟩) rfl; have a1 := H.cell 1 1 rfl (v := .bool false) rfl; have a2 := H.cell 1 2 rfl (v := .int .i64 2) rfl; have b1 := H.cell 0 1 rfl (v := .int .u64 s.a) rfl; have b2 := H.cell 0 2 rfl (v := .int .u64 s.b) rfl; have b3 := H.cell 0 3 rfl (v := .int .u64 s.c) rfl; have b4 := H.cell 0 4 rfl (v := .int .u64 s.d) rfl; have b5 := H.cell 0 5 rfl (v := .int .i64 x) rfl; have b6 := H.cell 0 6 rfl (v := .int .i64 y) rfl) | ((with_reducible refine at_bs48 ?_); refine wl_bs48 H (x := x) (y := y) rfl rfl ?_; clear H; intro g5 w5 H q5; clear a0 a1 a2 b1 b2 b3 b4 b5 b6; have a0 := H.cell 2 0 rfl (v := .string ⟨#[115, 112, 108, 105, 116]⟩) rfl; have a1 := H.cell 2 1 rfl (v := .bool false) rfl; have a2 := H.cell 2 2 rfl (v := .int .i64 2) rfl; have b1 := H.cell 1 1 rfl (v := .int .u64 s.a) rfl; have b2 := H.cell 1 2 rfl (v := .int .u64 s.b) rfl; have b3 := H.cell 1 3 rfl (v := .int .u64 s.c) rfl; have b4 := H.cell 1 4 rfl (v := .int .u64 s.d) rfl; have b5 := H.cell 1 5 rfl (v := .int .i64 x) rfl; have b6 := H.cell 1 6 rfl (v := .int .i64 y) rfl; have d0 := H.cell 0 0 rfl (v := .int .i64 x) rfl; have d1 := H.cell 0 1 rfl (v := .int .i64 y) rfl))
    go_ret
    exact ⟨rfl, H.below⟩
  | true =>
    have kn : ∀ w, (binOp .neq 24 (.agg #[.int .u64 s.a, .int .u64 s.b, .int .u64 s.c, .int .u64 s.d]) (.agg #[.int .u64 0, .int .u64 0, .int .u64 0, .int .u64 0])).run Tryz.prog w = .ok (.bool false) w := fun w => by have := run_neq24 s noSet w; rw [hset] at this; exact this
    replace hset := hide hset
    rw [Bool.true_and]
    generalize hres : (inB x (n : Int) && inB y (n : Int)) = res
    replace hres := hide hres
    go_enter Tryz.func79, Tryz.ntmps79
    go_wp2_with (first | ((with_reducible refine at_box 139 ?_); refine wl_boxF (f := ⟨⟨#[115, 112, 108, 105, 116]⟩, false, 2⟩) H rfl ?_; clear H; intro g3 w3 H q1 q2) | ((with_reducible refine at_box 102 ?_); refine wl_boxI (i := ⟨2, s, x, y⟩) H rfl ?_; clear H; intro g4 w4 H q3 q4; have a0 := H.cell 1 0 rfl (v := .string ⟨#[115, 112, 108, 105, 116]⟩) rfl; have a1 := H.cell 1 1 rfl (v := .bool false) rfl; have a2 := H.cell 1 2 rfl (v := .int .i64 2) rfl; have b1 := H.cell 0 1 rfl (v := .int .u64 s.a) rfl; have b2 := H.cell 0 2 rfl (v := .int .u64 s.b) rfl; have b3 := H.cell 0 3 rfl (v := .int .u64 s.c) rfl; have b4 := H.cell 0 4 rfl (v := .int .u64 s.d) rfl; have b5 := H.cell 0 5 rfl (v := .int .i64 x) rfl; have b6 := H.cell 0 6 rfl (v := .int .i64 y) rfl) | ((with_reducible refine at_bs48 ?_); refine wl_bs48 H (x := x) (y := y) rfl rfl ?_; clear H; intro g5 w5 H q5; clear a0 a1 a2 b1 b2 b3 b4 b5 b6; have a0 := H.cell 2 0 rfl (v := .string ⟨#[115, 112, 108, 105, 116]⟩) rfl; have a1 := H.cell 2 1 rfl (v := .bool false) rfl; have a2 := H.cell 2 2 rfl (v := .int .i64 2) rfl; have b1 := H.cell 1 1 rfl (v := .int .u64 s.a) rfl; have b2 := H.cell 1 2 rfl (v := .int .u64 s.b) rfl; have b3 := H.cell 1 3 rfl (v := .int .u64 s.c) rfl; have b4 := H.cell 1 4 rfl (v := .int .u64 s.d) rfl; have b5 := H.cell 1 5 rfl (v := .int .i64 x) rfl; have b6 := H.cell 1 6 rfl (v := .int .i64 y) rfl; have d0 := H.cell 0 0 rfl (v := .int .i64 x) rfl; have d1 := H.cell 0 1 rfl (v := .int .i64 y) rfl))
    have HB := hide H.below
    replace H := hide H
    go_loop [30] (fun iv => ∃ j : Nat, j ≤ 2 ∧ iv = .int .i64 (j : Int) ∧ Hid (1 ≤ j → inB x (n : Int) = true) ∧ Hid (2 ≤ j → inB y (n : Int) = true)) (fun iv => 2 - (intOf iv).toNat)
    case atStart => exact ⟨0, by omega, rfl, (fun h => by omega), (fun h => by omega)⟩
    case round =>
      obtain ⟨j, hj, rfl, h1, h2⟩ := hrel
      rcases (show j = 0 ∨ j = 1 ∨ j = 2 by omega) with rfl | rfl | rfl
      · by_cases hx : x < 0
        · go_wp2
          go_ret
          exact ⟨by rw [← hres.out, inB_neg hx]; rfl, HB.out⟩
        · by_cases hx2 : x < (n : Int)
          · have hx3 : ¬ ((n : Int) ≤ x) := by omega
            have hok := hide (inB_ok hx hx2)
            go_wp2
            go_round
            case rel => exact ⟨1, by omega, by go_num, (fun _ => hok.out), (fun h => by omega)⟩
            case measure => simp [intOf]
          · have hx3 : (n : Int) ≤ x := by omega
            have hno := hide (inB_ge hx2)
            go_wp2
            go_ret
            exact ⟨by rw [← hres.out, hno.out]; rfl, HB.out⟩
      · by_cases hy : y < 0
        · go_wp2
          go_ret
          exact ⟨by rw [← hres.out, inB_neg hy, Bool.and_false]; rfl, HB.out⟩
        · by_cases hy2 : y < (n : Int)
          · have hy3 : ¬ ((n : Int) ≤ y) := by omega
            have hok := hide (inB_ok hy hy2)
            go_wp2
            go_round
            case rel => exact ⟨2, by omega, by go_num, (fun _ => h1.out (by omega)), (fun _ => hok.out)⟩
            case measure => simp [intOf]
          · have hy3 : (n : Int) ≤ y := by omega
            have hno := hide (inB_ge hy2)
            go_wp2
            go_ret
            exact ⟨by rw [← hres.out, hno.out, Bool.and_false]; rfl, HB.out⟩
      · go_wp2
        go_ret
        exact ⟨by rw [← hres.out, h1.out (by omega), h2.out (by omega)]; rfl, HB.out⟩
set_option maxHeartbeats 2000000 in
set_option maxRecDepth 100000 in
theorem fitI_3 (s : S4) (x y : Int) (n : Nat) (w : World) : Calls Tryz.prog 79 #[fmV ⟨⟨#[101, 110, 100]⟩, false, 0⟩, insV ⟨3, s, x, y⟩, .int .i64 (n : Int)] w fun e w' => e = .returned (.bool (eqS s noSet && (inB x 1 && inB y 1))) ∧ Below w.heap.size w w' := by
  have H := St.start Nope w
  have kg := guard24
  cases hset : eqS s noSet with
  | false =>
    have kn : ∀ w, (binOp .neq 24 (.agg #[.int .u64 s.a, .int .u64 s.b, .int .u64 s.c, .int .u64 s.d]) (.agg #[.int .u64 0, .int .u64 0, .int .u64 0, .int .u64 0])).run Tryz.prog w = .ok (.bool true) w := fun w => by have := run_neq24 s noSet w; rw [hset] at this; exact this
    go_enter Tryz.func79, Tryz.ntmps79
    go_wp2_with (first | ((with_reducible refine at_box 139 ?_); refine wl_boxF (f := ⟨⟨#[101, 110, 100]⟩, false, 0⟩) H rfl ?_; clear H; intro g3 w3 H q1 q2) | ((with_reducible refine at_box 102 ?_); refine wl_boxI (i := ⟨3, s, x, y⟩) H rfl ?_; clear H; intro g4 w4 H q3 q4; have a0 := H.cell 1 0 rfl (v := .string ⟨#[101, 110, 100]⟩) rfl; have a1 := H.cell 1 1 rfl (v := .bool false) rfl; have a2 := H.cell 1 2 rfl (v := .int .i64 0) rfl; have b1 := H.cell 0 1 rfl (v := .int .u64 s.a) rfl; have b2 := H.cell 0 2 rfl (v := .int .u64 s.b) rfl; have b3 := H.cell 0 3 rfl (v := .int .u64 s.c) rfl; have b4 := H.cell 0 4 rfl (v := .int .u64 s.d) rfl; have b5 := H.cell 0 5 rfl (v := .int .i64 x) rfl; have b6 := H.cell 0 6 rfl (v := .int .i64 y) rfl) | ((with_reducible refine at_bs48 ?_); refine wl_bs48 H (x := x) (y := y) rfl rfl ?_; clear H; intro g5 w5 H q5; clear a0 a1 a2 b1 b2 b3 b4 b5 b6; have a0 := H.cell 2 0 rfl (v := .string ⟨#[101, 110, 100]⟩) rfl; have a1 := H.cell 2 1 rfl (v := .bool false) rfl; have a2 := H.cell 2 2 rfl (v := .int .i64 0) rfl; have b1 := H.cell 1 1 rfl (v := .int .u64 s.a) rfl; have b2 := H.cell 1 2 rfl (v := .int .u64 s.b) rfl; have b3 := H.cell 1 3 rfl (v := .int .u64 s.c) rfl; have b4 := H.cell 1 4 rfl (v := .int .u64 s.d) rfl; have b5 := H.cell 1 5 rfl (v := .int .i64 x) rfl; have b6 := H.cell 1 6 rfl (v := .int .i64 y) rfl; have d0 := H.cell 0 0 rfl (v := .int .i64 x) rfl; have d1 := H.cell 0 1 rfl (v := .int .i64 y) rfl))
    go_ret
    exact ⟨rfl, H.below⟩
  | true =>
    have kn : ∀ w, (binOp .neq 24 (.agg #[.int .u64 s.a, .int .u64 s.b, .int .u64 s.c, .int .u64 s.d]) (.agg #[.int .u64 0, .int .u64 0, .int .u64 0, .int .u64 0])).run Tryz.prog w = .ok (.bool false) w := fun w => by have := run_neq24 s noSet w; rw [hset] at this; exact this
    replace hset := hide hset
    rw [Bool.true_and]
    generalize hres : (inB x 1 && inB y 1) = res
    replace hres := hide hres
    go_enter Tryz.func79, Tryz.ntmps79
    go_wp2_with (first | ((with_reducible refine at_box 139 ?_); refine wl_boxF (f := ⟨⟨#[101, 110, 100]⟩, false, 0⟩) H rfl ?_; clear H; intro g3 w3 H q1 q2) | ((with_reducible refine at_box 102 ?_); refine wl_boxI (i := ⟨3, s, x, y⟩) H rfl ?_; clear H; intro g4 w4 H q3 q4; have a0 := H.cell 1 0 rfl (v := .string ⟨#[101, 110, 100]⟩) rfl; have a1 := H.cell 1 1 rfl (v := .bool false) rfl; have a2 := H.cell 1 2 rfl (v := .int .i64 0) rfl; have b1 := H.cell 0 1 rfl (v := .int .u64 s.a) rfl; have b2 := H.cell 0 2 rfl (v := .int .u64 s.b) rfl; have b3 := H.cell 0 3 rfl (v := .int .u64 s.c) rfl; have b4 := H.cell 0 4 rfl (v := .int .u64 s.d) rfl; have b5 := H.cell 0 5 rfl (v := .int .i64 x) rfl; have b6 := H.cell 0 6 rfl (v := .int .i64 y) rfl) | ((with_reducible refine at_bs48 ?_); refine wl_bs48 H (x := x) (y := y) rfl rfl ?_; clear H; intro g5 w5 H q5; clear a0 a1 a2 b1 b2 b3 b4 b5 b6; have a0 := H.cell 2 0 rfl (v := .string ⟨#[101, 110, 100]⟩) rfl; have a1 := H.cell 2 1 rfl (v := .bool false) rfl; have a2 := H.cell 2 2 rfl (v := .int .i64 0) rfl; have b1 := H.cell 1 1 rfl (v := .int .u64 s.a) rfl; have b2 := H.cell 1 2 rfl (v := .int .u64 s.b) rfl; have b3 := H.cell 1 3 rfl (v := .int .u64 s.c) rfl; have b4 := H.cell 1 4 rfl (v := .int .u64 s.d) rfl; have b5 := H.cell 1 5 rfl (v := .int .i64 x) rfl; have b6 := H.cell 1 6 rfl (v := .int .i64 y) rfl; have d0 := H.cell 0 0 rfl (v := .int .i64 x) rfl; have d1 := H.cell 0 1 rfl (v := .int .i64 y) rfl))
    have HB := hide H.below
    replace H := hide H
    go_loop [30] (fun iv => ∃ j : Nat, j ≤ 2 ∧ iv = .int .i64 (j : Int) ∧ Hid (1 ≤ j → inB x 1 = true) ∧ Hid (2 ≤ j → inB y 1 = true)) (fun iv => 2 - (intOf iv).toNat)
    case atStart => exact ⟨0, by omega, rfl, (fun h => by omega), (fun h => by omega)⟩
    case round =>
      obtain ⟨j, hj, rfl, h1, h2⟩ := hrel
      rcases (show j = 0 ∨ j = 1 ∨ j = 2 by omega) with rfl | rfl | rfl
      · by_cases hx : x < 0
        · go_wp2
          go_ret
          exact ⟨by rw [← hres.out, inB_neg hx]; rfl, HB.out⟩
        · by_cases hx2 : x < 1
          · have hx3 : ¬ (1 ≤ x) := by omega
            have hok := hide (inB_ok hx hx2)
            go_wp2
            go_round
            case rel => exact ⟨1, by omega, by go_num, (fun _ => hok.out), (fun h => by omega)⟩
            case measure => simp [intOf]
          · have hx3 : 1 ≤ x := by omega
            have hno := hide (inB_ge hx2)
            go_wp2
            go_ret
            exact ⟨by rw [← hres.out, hno.out]; rfl, HB.out⟩
      · by_cases hy : y < 0
        · go_wp2
          go_ret
          exact ⟨by rw [← hres.out, inB_neg hy, Bool.and_false]; rfl, HB.out⟩
        · by_cases hy2 : y < 1
          · have hy3 : ¬ (1 ≤ y) := by omega
            have hok := hide (inB_ok hy hy2)
            go_wp2
            go_round
            case rel => exact ⟨2, by omega, by go_num, (fun _ => h1.out (by omega)), (fun _ => hok.out)⟩
            case measure => simp [intOf]
          · have hy3 : 1 ≤ y := by omega
            have hno := hide (inB_ge hy2)
            go_wp2
            go_ret
            exact ⟨by rw [← hres.out, hno.out, Bool.and_false]; rfl, HB.out⟩
      · go_wp2
        go_ret
        exact ⟨by rw [← hres.out, h1.out (by omega), h2.out (by omega)]; rfl, HB.out⟩
set_option maxHeartbeats 2000000 in
set_option maxRecDepth 100000 in
theorem fitI_4 (s : S4) (x y : Int) (n : Nat) (w : World) : Calls Tryz.prog 79 #[fmV ⟨⟨#[106, 117, 109, 112]⟩, false, 1⟩, insV ⟨4, s, x, y⟩, .int .i64 (n : Int)] w fun e w' => e = .returned (.bool (eqS s noSet && (inB x (n : Int) && inB y 1))) ∧ Below w.heap.size w w' := by
  have H := St.start Nope w
  have kg := guard24
  cases hset : eqS s noSet with
  | false =>
    have kn : ∀ w, (binOp .neq 24 (.agg #[.int .u64 s.a, .int .u64 s.b, .int .u64 s.c, .int .u64 s.d]) (.agg #[.int .u64 0, .int .u64 0, .int .u64 0, .int .u64 0])).run Tryz.prog w = .ok (.bool true) w := fun w => by have := run_neq24 s noSet w; rw [hset] at this; exact this
    go_enter Tryz.func79, Tryz.ntmps79
    go_wp2_with (first | ((with_reducible refine at_box 139 ?_); refine wl_boxF (f := ⟨⟨#[106, 117, 109, 112]⟩, false, 1⟩) H rfl ?_; clear H; intro g3 w3 H q1 q2) | ((with_reducible refine at_box 102 ?_); refine wl_boxI (i := ⟨4, s, x, y⟩) H rfl ?_; clear H; intro g4 w4 H q3 q4; have a0 := H.cell 1 0 rfl (v := .string ⟨#[106, 117, 109, 112]⟩) rfl; have a1 := H.cell 1 1 rfl (v := .bool false) rfl; have a2 := H.cell 1 2 rfl (v := .int .i64 1) rfl; have b1 := H.cell 0 1 rfl (v := .int .u64 s.a) rfl; have b2 := H.cell 0 2 rfl (v := .int .u64 s.b) rfl; have b3 := H.cell 0 3 rfl (v := .int .u64 s.c) rfl; have b4 := H.cell 0 4 rfl (v := .int .u64 s.d) rfl; have b5 := H.cell 0 5 rfl (v := .int .i64 x) rfl; have b6 := H.cell 0 6 rfl (v := .int .i64 y) rfl) | ((with_reducible refine at_bs48 ?_); refine wl_bs48 H (x := x) (y := y) rfl rfl ?_; clear H; intro g5 w5 H q5; clear a0 a1 a2 b1 b2 b3 b4 b5 b6; have a0 := H.cell 2 0 rfl (v := .string ⟨#[106, 117, 109, 112]⟩) rfl; have a1 := H.cell 2 1 rfl (v := .bool false) rfl; have a2 := H.cell 2 2 rfl (v := .int .i64 1) rfl; have b1 := H.cell 1 1 rfl (v := .int .u64 s.a) rfl; have b2 := H.cell 1 2 rfl (v := .int .u64 s.b) rfl; have b3 := H.cell 1 3 rfl (v := .int .u64 s.c) rfl; have b4 := H.cell 1 4 rfl (v := .int .u64 s.d) rfl; have b5 := H.cell 1 5 rfl (v := .int .i64 x) rfl; have b6 := H.cell 1 6 rfl (v := .int .i64 y) rfl; have d0 := H.cell 0 0 rfl (v := .int .i64 x) rfl; have d1 := H.cell 0 1 rfl (v := .int .i64 y) rfl))
    go_ret
    exact ⟨rfl, H.below⟩
  | true =>
    have kn : ∀ w, (binOp .neq 24 (.agg #[.int .u64 s.a, .int .u64 s.b, .int .u64 s.c, .int .u64 s.d]) (.agg #[.int .u64 0, .int .u64 0, .int .u64 0, .int .u64 0])).run Tryz.prog w = .ok (.bool false) w := fun w => by have := run_neq24 s noSet w; rw [hset] at this; exact this
    replace hset := hide hset
    rw [Bool.true_and]
    generalize hres : (inB x (n : Int) && inB y 1) = res
    replace hres := hide hres
    go_enter Tryz.func79, Tryz.ntmps79
    go_wp2_with (first | ((with_reducible refine at_box 139 ?_); refine wl_boxF (f := ⟨⟨#[106, 117, 109, 112]⟩, false, 1⟩) H rfl ?_; clear H; intro g3 w3 H q1 q2) | ((with_reducible refine at_box 102 ?_); refine wl_boxI (i := ⟨4, s, x, y⟩) H rfl ?_; clear H; intro g4 w4 H q3 q4; have a0 := H.cell 1 0 rfl (v := .string ⟨#[106, 117, 109, 112]⟩) rfl; have a1 := H.cell 1 1 rfl (v := .bool false) rfl; have a2 := H.cell 1 2 rfl (v := .int .i64 1) rfl; have b1 := H.cell 0 1 rfl (v := .int .u64 s.a) rfl; have b2 := H.cell 0 2 rfl (v := .int .u64 s.b) rfl; have b3 := H.cell 0 3 rfl (v := .int .u64 s.c) rfl; have b4 := H.cell 0 4 rfl (v := .int .u64 s.d) rfl; have b5 := H.cell 0 5 rfl (v := .int .i64 x) rfl; have b6 := H.cell 0 6 rfl (v := .int .i64 y) rfl) | ((with_reducible refine at_bs48 ?_); refine wl_bs48 H (x := x) (y := y) rfl rfl ?_; clear H; intro g5 w5 H q5; clear a0 a1 a2 b1 b2 b3 b4 b5 b6; have a0 := H.cell 2 0 rfl (v := .string ⟨#[106, 117, 109, 112]⟩) rfl; have a1 := H.cell 2 1 rfl (v := .bool false) rfl; have a2 := H.cell 2 2 rfl (v := .int .i64 1) rfl; have b1 := H.cell 1 1 rfl (v := .int .u64 s.a) rfl; have b2 := H.cell 1 2 rfl (v := .int .u64 s.b) rfl; have b3 := H.cell 1 3 rfl (v := .int .u64 s.c) rfl; have b4 := H.cell 1 4 rfl (v := .int .u64 s.d) rfl; have b5 := H.cell 1 5 rfl (v := .int .i64 x) rfl; have b6 := H.cell 1 6 rfl (v := .int .i64 y) rfl; have d0 := H.cell 0 0 rfl (v := .int .i64 x) rfl; have d1 := H.cell 0 1 rfl (v := .int .i64 y) rfl))
    have HB := hide H.below
    replace H := hide H
    go_loop [30] (fun iv => ∃ j : Nat, j ≤ 2 ∧ iv = .int .i64 (j : Int) ∧ Hid (1 ≤ j → inB x (n : Int) = true) ∧ Hid (2 ≤ j → inB y 1 = true)) (fun iv => 2 - (intOf iv).toNat)
    case atStart => exact ⟨0, by omega, rfl, (fun h => by omega), (fun h => by omega)⟩
    case round =>
      obtain ⟨j, hj, rfl, h1, h2⟩ := hrel
      rcases (show j = 0 ∨ j = 1 ∨ j = 2 by omega) with rfl | rfl | rfl
      · by_cases hx : x < 0
        · go_wp2
          go_ret
          exact ⟨by rw [← hres.out, inB_neg hx]; rfl, HB.out⟩
        · by_cases hx2 : x < (n : Int)
          · have hx3 : ¬ ((n : Int) ≤ x) := by omega
            have hok := hide (inB_ok hx hx2)
            go_wp2
            go_round
            case rel => exact ⟨1, by omega, by go_num, (fun _ => hok.out), (fun h => by omega)⟩
            case measure => simp [intOf]
          · have hx3 : (n : Int) ≤ x := by omega
            have hno := hide (inB_ge hx2)
            go_wp2
            go_ret
            exact ⟨by rw [← hres.out, hno.out]; rfl, HB.out⟩
      · by_cases hy : y < 0
        · go_wp2
          go_ret
          exact ⟨by rw [← hres.out, inB_neg hy, Bool.and_false]; rfl, HB.out⟩
        · by_cases hy2 : y < 1
          · have hy3 : ¬ (1 ≤ y) := by omega
            have hok := hide (inB_ok hy hy2)
            go_wp2
            go_round
            case rel => exact ⟨2, by omega, by go_num, (fun _ => h1.out (by omega)), (fun _ => hok.out)⟩
            case measure => simp [intOf]
          · have hy3 : 1 ≤ y := by omega
            have hno := hide (inB_ge hy2)
            go_wp2
            go_ret
            exact ⟨by rw [← hres.out, hno.out, Bool.and_false]; rfl, HB.out⟩
      · go_wp2
        go_ret
        exact ⟨by rw [← hres.out, h1.out (by omega), h2.out (by omega)]; rfl, HB.out⟩
set_option maxHeartbeats 2000000 in
set_option maxRecDepth 100000 in
theorem fitI_0 (i : Ins) (n : Nat) (w : World) : Calls Tryz.prog 79 #[fmV ⟨⟨#[]⟩, false, 0⟩, insV i, .int .i64 (n : Int)] w fun e w' => e = .returned (.bool false) ∧ Below w.heap.size w w' := by
  have H := St.start Nope w
  go_enter Tryz.func79, Tryz.ntmps79
  go_wp2_with (first | ((with_reducible refine at_box 139 ?_); refine wl_boxF (f := ⟨⟨#[]⟩, false, 0⟩) H rfl ?_; clear H; intro g3 w3 H q1 q2) | ((with_reducible refine at_box 102 ?_); refine wl_boxI (i := i) H rfl ?_; clear H; intro g4 w4 H q3 q4; have a0 := H.cell 1 0 rfl (v := .string ⟨#[]⟩) rfl))
  go_ret
  exact ⟨rfl, H.below⟩
theorem fitI_any (i : Ins) (n : Nat) (w : World) : Calls Tryz.prog 79 #[fmV (fm i.op), insV i, .int .i64 (n : Int)] w fun e w' => e = .returned (.bool (fitI i n)) ∧ Below w.heap.size w w' := by
  obtain ⟨op, s, x, y⟩ := i
  unfold fitI
  simp only
  by_cases h1 : op = 1
  · subst h1; simpa [fm, bnd, nByte] using fitI_1 s x y n w
  · by_cases h2 : op = 2
    · subst h2; simpa [fm, bnd, nSplit] using fitI_2 s x y n w
    · by_cases h3 : op = 3
      · subst h3; simpa [fm, bnd, nEnd] using fitI_3 s x y n w
      · by_cases h4 : op = 4
        · subst h4; simpa [fm, bnd, nJump] using fitI_4 s x y n w
        · have e1 : fm op = ⟨⟨#[]⟩, false, 0⟩ := by simp [fm, h1, h2, h3, h4]
          have e2 : (op == 1 || (op == 2 || op == 3 || op == 4) && eqS s noSet) = false := by simp [h1, h2, h3, h4]
          rw [e1, e2, Bool.false_and]
          exact fitI_0 ⟨op, s, x, y⟩ n w
end Go.Proofs.YtkfdikpnnkbgaaaGreatDoor
