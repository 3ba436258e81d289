/-
  program, Make, Count of a pattern that may be.
-/
import Derived.Test.YtkfdikpnnkbgaaaGreatDoorCK
import Derived.Test.YtkfdikpnnkbgaaaGreatDoorAA
namespace Go.Proofs.YtkfdikpnnkbgaaaGreatDoor
open Go.RowKit
set_option linter.unusedVariables false
set_option linter.unusedSimpArgs false

theorem run_bs99b (n m : Nat) (fn gn : Fn) (xs ys us vs : Array Value) (w : World) : (Instr.buildSlice 149 2 #[(0, cdV n (.func fn xs ys)), (1, cdV m (.func gn us vs))]).run Tryz.prog w = .ok (.slice (some ⟨w.heap.size, 0, none⟩) 2 2) (w.alloc (.cells #[.int .i64 (n : Int), .func fn xs ys, .int .i64 (m : Int), .func gn us vs] 66)) := by kernel_rfl
section
variable {w w' : World} {ops : Array Oper} {rest : List Oper} {a : Act} {Q : Exit → Act → World → Prop} {dst : Option Nat} {x y : Operand} {ty : TypeId} {pos : String} {after : Array Edge}
theorem wl_bs99b {n m : Nat} {fn gn : Fn} {xs ys us vs : Array Value} (hx : a.eval x = cdV n (.func fn xs ys)) (hy : a.eval y = cdV m (.func gn us vs)) (k : ∀ g w', g = w.heap.size → w' = w.alloc (.cells #[.int .i64 (n : Int), .func fn xs ys, .int .i64 (m : Int), .func gn us vs] 66) → wpList Tryz.prog ops Q rest (a.put dst (.slice (some ⟨g, 0, none⟩) 2 2)) w') : wpList Tryz.prog ops Q (⟨dst, .buildSlice 149 2 #[(0, x), (1, y)], ty, pos, after, none⟩ :: rest) a w := by
  refine wl_val (w' := w.alloc (.cells #[.int .i64 (n : Int), .func fn xs ys, .int .i64 (m : Int), .func gn us vs] 66)) ?_ (k _ _ rfl rfl)
  unfold execOp
  simp only [List.map_toArray, List.map_cons, List.map_nil, hx, hy, Sem.run_bind, run_bs99b, Result.andThen_ok, Sem.run_pure]
end
set_option maxHeartbeats 2000000 in
set_option maxRecDepth 100000 in
theorem program_any (t : Tr) (P : Nat → Prop) (x : Value) (w : World) (T : TrV w P x t) (hf : fitT t) (hsz : szT t ≤ 5000) : Calls Tryz.prog 30 #[x] w (CodeP cap Nope w (prg t)) := by
  have H := St.start Nope w
  have hT : Hid (TrV w P x t) := T
  have CO := hide (fun R w' T hR => codeOf_any (szT t) t (Nat.le_refl _) R P x w' T hf hsz hR)
  obtain ⟨va, vn, vc, rfl⟩ := T.val
  clear T
  replace hf := hide hf
  go_enter Tryz.func30, Tryz.ntmps30
  go_wp2_with (first | ((with_reducible refine at_box 27 ?_); refine wl_box28 H rfl ?_; clear H; intro g1 w1 H q1 q2) | ((with_reducible refine at_alloc 66 ?_); refine wl_allocC H ?_; clear H; intro g2 w2 H q3 q4) | ((with_reducible refine at_load 27 ?_); refine wl_load28 1 H rfl rfl ?_))
  have hb := H.below
  have hl2 := H.lti 0 rfl
  refine (CO.out (fun k => k = g2) w2 (hT.out.kept (fun b _ hl => hb.block b hl)) (fun k hk => by omega)).mono ?_
  rintro e w3 ⟨z, f, rfl, C, B3⟩
  have hl3 := B3.size
  go_wp2_with fail
  refine (end_any (fun k => k = g2) w3).mono ?_
  rintro e w4 ⟨z4, f4, rfl, C4, B4⟩
  obtain ⟨nf, caps, hfe, _⟩ := C.put
  subst hfe
  obtain ⟨nf4, caps4, hfe4, _⟩ := C4.put
  subst hfe4
  have BA : Below w4.heap.size w4 (w4.alloc (.cells #[.int .i64 (z : Int), .func (.func nf) #[] caps, .int .i64 (z4 : Int), .func (.func nf4) #[] caps4] 66)) := (Below.refl _ w4).alloc (Nat.le_refl _) _
  have hl4 := B4.size
  have CC : CsV cap (fun k => k = g2) (w4.alloc (.cells #[.int .i64 (z : Int), .func (.func nf) #[] caps, .int .i64 (z4 : Int), .func (.func nf4) #[] caps4] 66)) (.slice (some ⟨w4.heap.size, 0, none⟩) 2 2) [cdT t, endC] := by
    refine ⟨[.int .i64 (z : Int), .func (.func nf) #[] caps, .int .i64 (z4 : Int), .func (.func nf4) #[] caps4], ⟨rfl, .inr ⟨w4.heap.size, 2, _, rfl, Nat.zero_le _, heap_alloc_new w4 _, Nat.le_refl _, by unfold maxLen; omega, rfl, rfl⟩⟩, fun b hb' => (by cases hb'; intro h; have h2 : w4.heap.size = g2 := h; omega), z, _, _, rfl, (C.below B4).below BA, z4, _, _, rfl, C4.below BA, rfl⟩
  have SQ := hide (sequence_any (fun k => k = g2) _ _ cap (by decide) _ CC (by simp) (fun k hk => by have h2 : k = g2 := hk; have := BA.size; omega))
  have B2A := (B3.trans (B4.mono B3.size)).trans (BA.mono (by omega))
  replace C := hide C
  replace C4 := hide C4
  replace CC := hide CC
  go_wp2_with (first | ((with_reducible refine at_bs99 ?_); refine wl_bs99b (n := z) (fn := .func nf) (xs := #[]) (ys := caps) (m := z4) (gn := .func nf4) (us := #[]) (vs := caps4) rfl rfl ?_; intro g6 w6 hg6 hw6; subst hg6; subst hw6))
  refine SQ.out.mono ?_
  rintro e w7 ⟨z7, f7, rfl, C7, B7⟩
  obtain ⟨nf7, caps7, hfe7, _⟩ := C7.put
  subst hfe7
  have B27 := B2A.trans (B7.mono B2A.size)
  have BB := hb.trans (B27.mono hb.size)
  have H3 := (H.call B27 (Nat.le_refl _)).only
  clear H
  have C7' : CdOk cap (fun k => Nope k ∨ k = g2) w7 z7 (.func (.func nf7) #[] caps7) (prg t) := C7.mono (Kp.refl _ _) (fun k h => by rcases h with h | h; exact h.elim; exact .inl h)
  replace C7' := hide C7'
  clear C7 B2A B7 BA
  go_wp2_with (first | ((with_reducible refine at_store 66 ?_); refine wl_storeC 0 (z' := z7) (f' := .func (.func nf7) #[] caps7) H3 rfl rfl rfl rfl ?_; clear H3; intro w8 H3))
  refine bodyPost_ret (results_cell0 rfl _ _ _ _ rfl (loadC (H3.get 0 rfl))) rfl ?_
  exact CodeP.stored BB C7'.out H3.but q3
/-- What Make answers of a pattern that may be. -/
def MakeP (t : Tr) (w : World) (e : Ending) (w' : World) : Prop := Below w.heap.size w w' ∧
  ((2048 < (prg t).n ∧ e = .returned (.tuple #[.slice none 0 0, .int .i64 110])) ∨
   ((prg t).n ≤ 2048 ∧ ∃ v, e = .returned (.tuple #[v, .int .i64 0]) ∧ RI w' v ((prg t).put 0 0) ∧ ∀ k, v.ownBlock = some k → w.heap.size ≤ k))
set_option maxHeartbeats 2000000 in
set_option maxRecDepth 100000 in
theorem make_ok (t : Tr) (P : Nat → Prop) (x : Value) (w : World) (T : TrV w P x t) (hf : fitT t) (hsz : szT t ≤ 4096) (hdp : dpT t ≤ 128) : Calls Tryz.prog 8 #[x] w (MakeP t w) := by
  have H := St.start Nope w
  have hT : Hid (TrV w P x t) := T
  have CH := hide (fun w' T => check_any t P x w' T hf hsz hdp)
  have PR := hide (fun w' T => program_any t P x w' T hf (by omega))
  obtain ⟨va, vn, vc, rfl⟩ := T.val
  clear T
  replace hf := hide hf
  go_enter Tryz.func8, Tryz.ntmps8
  go_wp2_with (first | ((with_reducible refine at_box 27 ?_); refine wl_box28 H rfl ?_; clear H; intro g1 w1 H q1 q2) | ((with_reducible refine at_load 27 ?_); refine wl_load28 0 H rfl rfl ?_))
  refine (CH.out _ (hT.out.kept (fun b _ hl => H.below.block b hl))).mono ?_
  rintro e w2 ⟨rfl, B2⟩
  replace H := H.call B2 (Nat.le_refl _)
  go_wp2_with (first | ((with_reducible refine at_load 27 ?_); refine wl_load28 0 H rfl rfl ?_))
  refine (PR.out _ (hT.out.kept (fun b _ hl => H.below.block b hl))).mono ?_
  rintro e w3 ⟨z, f, rfl, C, B3⟩
  obtain ⟨nf, caps, hfe, hcl, PF⟩ := C.put
  subst hfe
  replace H := H.call B3 (Nat.le_refl _)
  have hz := C.sz
  have hzn : (2048 < z ↔ 2048 < (prg t).n) := by unfold SzOk cap at hz; omega
  by_cases hbig : 2048 < z
  · have i1 : (2048 : Int) < (z : Int) := by omega
    replace C := hide C
    replace PF := hide PF
    go_wp2_with (first | ((with_reducible refine at_alloc 66 ?_); refine wl_allocC H ?_; clear H; intro g4 w4 H q5 q6) | ((with_reducible refine at_store 66 ?_); refine wl_storeC 0 H rfl rfl rfl rfl ?_; clear H; intro w5 H) | ((with_reducible refine at_load 3 ?_); refine wl_ld3 0 0 H (v := .int .i64 (z : Int)) rfl rfl rfl ?_))
    go_ret2
    exact ⟨H.below, .inl ⟨hzn.1 hbig, rfl⟩⟩
  · have i1 : ¬ ((2048 : Int) < (z : Int)) := by omega
    have hsm : (prg t).n ≤ 2048 := by have := hzn.2; omega
    have PP : Hid (∀ w5, Below w3.heap.size w3 w5 → Calls Tryz.prog nf (#[.slice none 0 0, .int .i64 ((0 : Nat) : Int)] ++ caps) w5 (PutE w5 (.slice none 0 0) ((prg t).put 0 0))) := fun w5 hb => by
      have := PF w5 (.slice none 0 0) [] 0 ((Kp.refl _ _).below hb) (RI.nil _) (fun k hk => by cases hk) (by simp; omega) (by omega)
      simpa using this
    have W3 := hide H.below
    replace C := hide C
    replace PF := hide PF
    have H3 := St.start Nope w3
    clear H
    go_wp2_with (first | ((with_reducible refine at_alloc 66 ?_); refine wl_allocC H3 ?_; clear H3; intro g4 w4 H3 q5 q6) | ((with_reducible refine at_store 66 ?_); refine wl_storeC 0 H3 rfl rfl rfl rfl ?_; clear H3; intro w5 H3) | ((with_reducible refine at_load 3 ?_); refine wl_ld3 0 0 H3 (v := .int .i64 (z : Int)) rfl rfl rfl ?_) | ((with_reducible refine at_load 64 ?_); refine wl_ld52 0 1 H3 (v := .func (.func nf) #[] caps) rfl rfl rfl ?_) | ((with_reducible refine at_clo ?_); refine wl_clo2 (u1 := .slice none 0 0) (u2 := .int .i64 ((0 : Nat) : Int)) rfl rfl rfl hcl ?_))
    have hb5 := H3.below
    refine (PP.out _ hb5).mono ?_
    rintro e w6 ⟨v, rfl, r6, b6, o6⟩
    refine ⟨v, rfl, ?_⟩
    have fin : Hid (MakeP t w (.returned (.tuple #[v, .int .i64 0])) w6) := by
      have B36 := hb5.trans (b6.below hb5.size (fun k hk => by cases hk))
      refine ⟨W3.out.trans (B36.mono W3.out.size), .inr ⟨hsm, v, rfl, r6, fun k hk => ?_⟩⟩
      have := W3.out.size
      have := hb5.size
      rcases o6 k hk with h | h
      · cases h
      · omega
    clear r6 b6 o6 H3
    go_wp2_with fail
    go_ret2
    exact fin.out
end Go.Proofs.YtkfdikpnnkbgaaaGreatDoor
