/-
  single, end, option, loop: what they answer.
-/
import Derived.Test.YtkfdikpnnkbgaaaGreatDoorCB
namespace Go.Proofs.YtkfdikpnnkbgaaaGreatDoor
open Go.RowKit
set_option linter.unusedVariables false
set_option linter.unusedSimpArgs false

theorem clo76 : Clo 123 := fun args w => by kernel_rfl
theorem clo64 : Clo 95 := fun args w => by kernel_rfl
theorem clo94 : Clo 148 := fun args w => by kernel_rfl
theorem clo93 : Clo 147 := fun args w => by kernel_rfl
theorem clo61 : Clo 92 := fun args w => by kernel_rfl
theorem clo82 : Clo 129 := fun args w => by kernel_rfl
theorem clo81 : Clo 128 := fun args w => by kernel_rfl
theorem clo77 : Clo 124 := fun args w => by kernel_rfl
/-- A code is answered. -/
def CodeP (b : Nat) (R : Nat → Prop) (w : World) (c : Cd) (e : Ending) (w' : World) : Prop := ∃ z f, e = .returned (cdV z f) ∧ CdOk b R w' z f c ∧ Below w.heap.size w w'
section
variable {S : Nat → Prop} {w0 w w' : World} {L : List Ent} {ops : Array Oper} {rest : List Oper} {a : Act} {Q : Exit → Act → World → Prop} {dst : Option Nat} {x y z : Operand} {ty : TypeId} {pos : String} {after : Array Edge}
theorem run_buildC (ev : Operand → Value) (n : Nat) (fn : Fn) (xs ys : Array Value) (h0 : ev x = .int .i64 (n : Int)) (h1 : ev y = .func fn xs ys) (w : World) : (execOp ev ⟨dst, .build 66 #[(0, x), (1, y)], ty, pos, after, none⟩).run Tryz.prog w = .ok (.value (cdV n (.func fn xs ys))) w := by
  unfold execOp
  simp only [List.map_toArray, List.map_cons, List.map_nil, h0, h1]
  kernel_rfl
theorem wl_box3 (H : St S w0 w L) {n : Int} (hx : a.eval x = .int .i64 n) (h : ∀ g w', St S w0 w' ((true, g, 3, #[.int .i64 n]) :: L) → w0.heap.size ≤ g → w.heap.size ≤ g → wpList Tryz.prog ops Q rest (a.put dst (.pointer (some ⟨g, 0, none⟩))) w') : wpList Tryz.prog ops Q (⟨dst, .box 3 x, ty, pos, after, none⟩ :: rest) a w := by
  refine wl_val (w' := w.alloc (.cells #[.int .i64 n] 3)) ?_ (h _ _ (H.alloc 3 _) H.but.size (Nat.le_refl _))
  unfold execOp
  simp only [hx]
  kernel_rfl
theorem run_fieldC1 (ev : Operand → Value) (n : Nat) (f : Value) (h0 : ev x = cdV n f) (w : World) : (execOp ev ⟨dst, .field 66 x 1, ty, pos, after, none⟩).run Tryz.prog w = .ok (.value f) w := by
  unfold execOp
  simp only [h0]
  kernel_rfl
theorem run_fieldC0 (ev : Operand → Value) (n : Nat) (f : Value) (h0 : ev x = cdV n f) (w : World) : (execOp ev ⟨dst, .field 66 x 0, ty, pos, after, none⟩).run Tryz.prog w = .ok (.value (.int .i64 (n : Int))) w := by
  unfold execOp
  simp only [h0]
  kernel_rfl
theorem at_field (t : TypeId) {k : Nat} (h : wpList Tryz.prog ops Q (⟨dst, .field t x k, ty, pos, after, none⟩ :: rest) a w) : wpList Tryz.prog ops Q (⟨dst, .field t x k, ty, pos, after, none⟩ :: rest) a w := h
end
/-- The blocks of a closure made in w' lie as they lay. -/
theorem Kp.get {R : Nat → Prop} {w W : World} (h : Kp R w W) {g : Nat} {o : Obj} (hg : w.heap[g]? = some o) (hR : ¬ R g) : W.heap[g]? = some o := (h.2 g (Array.getElem?_eq_some_iff.1 hg).1 hR).trans hg
set_option maxHeartbeats 400000 in
theorem single_any (R : Nat → Prop) (i : Ins) (w : World) (hR : ∀ k, R k → k < w.heap.size) : Calls Tryz.prog 91 #[insV i] w (CodeP cap R w (sgl i.op i.s)) := by
  have H := St.start Nope w
  go_enter Tryz.func91, Tryz.ntmps91
  go_wp2_with (first | ((with_reducible refine at_box 102 ?_); refine wl_boxI (i := i) H rfl ?_; clear H; intro g1 w1 H q1 q2) | ((with_reducible refine at_alloc 66 ?_); refine wl_allocC H ?_; clear H; intro g2 w2 H q3 q4) | ((with_reducible refine at_build 66 ?_); refine wl_val (run_buildC _ 1 (.func 123) #[] #[.pointer (some ⟨g1, 0, none⟩)] rfl rfl _) ?_) | ((with_reducible refine at_store 66 ?_); refine wl_storeC 0 (z' := 1) (f' := .func (.func 123) #[] #[.pointer (some ⟨g1, 0, none⟩)]) H rfl rfl rfl rfl ?_; clear H; intro w3 H))
  refine bodyPost_ret (results_cell0 rfl _ _ _ _ rfl (loadC (H.get 0 rfl))) rfl ?_
  have hg := H.get 1 rfl
  refine ⟨1, _, rfl, ⟨rfl, by decide, 123, _, rfl, clo76, fun W v I m hK hr hv hl hm => ?_⟩, H.below⟩
  exact single1_any g1 i W v I m (hK.get hg (fun h => by have := hR _ h; omega)) hr (by omega)
set_option maxHeartbeats 400000 in
theorem end_any (R : Nat → Prop) (w : World) : Calls Tryz.prog 62 #[] w (CodeP cap R w endC) := by
  have H := St.start Nope w
  go_enter Tryz.func62, Tryz.ntmps62
  go_wp2_with (first | ((with_reducible refine at_alloc 66 ?_); refine wl_allocC H ?_; clear H; intro g2 w2 H q3 q4) | ((with_reducible refine at_build 66 ?_); refine wl_val (run_buildC _ 1 (.func 95) #[] #[] rfl rfl _) ?_) | ((with_reducible refine at_store 66 ?_); refine wl_storeC 0 (z' := 1) (f' := .func (.func 95) #[] #[]) H rfl rfl rfl rfl ?_; clear H; intro w3 H))
  refine bodyPost_ret (results_cell0 rfl _ _ _ _ rfl (loadC (H.get 0 rfl))) rfl ?_
  refine ⟨1, _, rfl, ⟨rfl, by decide, 95, _, rfl, clo64, fun W v I m hK hr hv hl hm => ?_⟩, H.below⟩
  exact end1_any W v I m hr (by omega)
set_option maxHeartbeats 800000 in
theorem option_any (R : Nat → Prop) (z : Nat) (f : Value) (c : Cd) (o : Nat) (w : World) (b : Nat) (hb0 : b ≤ 2000000) (hc : CdOk b R w z f c) (hR : ∀ k, R k → k < w.heap.size) : Calls Tryz.prog 127 #[cdV z f, .int .i64 (o : Int)] w (CodeP (b + 1) R w (opt c o)) := by
  have H := St.start Nope w
  have h1 : f.oneCell' = true := hc.put.one
  have hz2 := hc.le
  obtain ⟨z1, hz1⟩ : ∃ z1, z1 = 1 + z := ⟨_, rfl⟩
  have e1 : IntKind.i64.wrap (1 + (z : Int)) = (z1 : Int) := by rw [IntKind.wrap_i64]; omega
  have e2 : wrap64 (1 + (z : Int)) = (z1 : Int) := by rw [w64 _ (by omega)]; omega
  replace hz1 := hide hz1
  replace hc := hide hc
  go_enter Tryz.func127, Tryz.ntmps127
  go_wp2_with (first | ((with_reducible refine at_box 66 ?_); refine wl_boxC H rfl ?_; clear H; intro g1 w1 H q1 q2) | ((with_reducible refine at_box 3 ?_); refine wl_box3 H (n := (o : Int)) rfl ?_; clear H; intro g2 w2 H q3 q4) | ((with_reducible refine at_alloc 66 ?_); refine wl_allocC H ?_; clear H; intro g3 w2 H q5 q6) | ((with_reducible refine at_load 3 ?_); refine wl_ld3 2 0 H (v := .int .i64 (z : Int)) rfl rfl rfl ?_) | ((with_reducible refine at_build 66 ?_); refine wl_val (run_buildC _ z1 (.func 148) #[] #[.pointer (some ⟨g1, 0, none⟩), .pointer (some ⟨g2, 0, none⟩)] rfl rfl _) ?_) | ((with_reducible refine at_store 66 ?_); refine wl_storeC 0 (z' := z1) (f' := .func (.func 148) #[] #[.pointer (some ⟨g1, 0, none⟩), .pointer (some ⟨g2, 0, none⟩)]) H rfl rfl rfl rfl ?_; clear H; intro w3 H))
  refine bodyPost_ret (results_cell0 rfl _ _ _ _ rfl (loadC (H.get 0 rfl))) rfl ?_
  have k1 := H.get 2 rfl
  have k2 := H.get 1 rfl
  have hb := H.below
  have hp := hc.out.put.below hb
  refine ⟨z1, _, rfl, ⟨by rw [hz1.out]; exact hc.out.sz.one, by have := hz1.out; omega, 148, _, rfl, clo94, fun W v I m hK hr hv hl hm => ?_⟩, hb⟩
  have l1 := (Array.getElem?_eq_some_iff.1 k1).1
  have l2 := (Array.getElem?_eq_some_iff.1 k2).1
  refine option1_any g1 g2 z f c o W v I m (hK.get k1 (fun h => by have := hR _ h; omega)) (hK.get k2 (fun h => by have := hR _ h; omega)) (hp.mono hK (fun k hk => hv k hk)) ⟨fun h => ?_, fun h => ?_⟩ hr (by simpa [opt] using hl) hm
  · rcases hv _ h with h | h
    · have := hR _ h; omega
    · omega
  · rcases hv _ h with h | h
    · have := hR _ h; omega
    · omega
set_option maxHeartbeats 800000 in
theorem loop1_any (gc : Nat) (z : Nat) (f : Value) (c : Cd) (W : World) (v : Value) (I : List Ins) (m : Nat) (b : Nat) (hb0 : b ≤ 2000000) (hgc : W.heap[gc]? = some (.cells (cdA z f) 66 (0, 0))) (hf : CdOk b (fun k => v.ownBlock = some k) W z f c) (hn : v.ownBlock ≠ some gc) (hr : RI W v I) (hl : I.length + (1 + c.n) ≤ 100000) (hm : m ≤ 100000) :
    Calls Tryz.prog 147 #[v, .int .i64 ((m : Nat) : Int), .pointer (some ⟨gc, 0, none⟩)] W (PutE W v (I ++ (lp c).put I.length m)) := by
  have H := (St.start Nope W).ro hgc (fun _ h => (List.not_mem_nil h).elim)
  obtain ⟨a, cp, hv⟩ := hr.val
  subst hv
  have OP := hide (option_any _ z f c m W b hb0 hf (fun k hk => hr.lt hk))
  replace hr := hide hr
  replace hf := hide hf
  replace hgc := hide hgc
  generalize hJ : I ++ (lp c).put I.length m = J
  replace hJ := hide hJ
  go_enter Tryz.func147, Tryz.ntmps147
  go_wp2_with (first | ((with_reducible refine at_load 66 ?_); refine wl_loadC 0 H rfl rfl ?_))
  refine OP.out.mono ?_
  rintro e w1 ⟨z1, f1, rfl, C1, B1⟩
  obtain ⟨nf, caps, rfl, hcl, PF⟩ := C1.put
  have PP := hide (PF w1 _ I I.length (Kp.refl _ _) (hr.out.below B1) (fun k hk => .inl hk) hl (by omega))
  replace PF := hide PF
  replace C1 := hide C1
  go_wp2_with (first | ((with_reducible refine at_field 66 ?_); refine wl_val (run_fieldC1 _ z1 (.func (.func nf) #[] caps) rfl _) ?_) | ((with_reducible refine at_clo ?_); refine wl_clo2 (u1 := .slice a I.length cp) (u2 := .int .i64 (I.length : Int)) rfl rfl rfl hcl ?_))
  refine PP.out.mono ?_
  rintro e w2 ⟨v2, rfl, r2, b2, o2⟩
  refine ⟨v2, rfl, ?_⟩
  have fin : Hid (PutE W (.slice a I.length cp) J (.returned v2) w2) := by
    have h3 := PutE.after (but_of_below B1 _ (fun k h1 h2 => by omega)) (fun k hk => .inl hk) (⟨v2, rfl, r2, b2, o2⟩ : PutE w1 _ _ (.returned v2) w2)
    rw [← hJ.out]
    exact h3
  clear r2 b2 o2
  go_wp2_with fail
  go_ret
  exact fin.out
set_option maxHeartbeats 800000 in
theorem loop_any (R : Nat → Prop) (z : Nat) (f : Value) (c : Cd) (w : World) (b : Nat) (hb0 : b ≤ 2000000) (hc : CdOk b R w z f c) (hR : ∀ k, R k → k < w.heap.size) : Calls Tryz.prog 126 #[cdV z f] w (CodeP (b + 1) R w (lp c)) := by
  have H := St.start Nope w
  have h1 : f.oneCell' = true := hc.put.one
  have hz2 := hc.le
  obtain ⟨z1, hz1⟩ : ∃ z1, z1 = 1 + z := ⟨_, rfl⟩
  have e1 : IntKind.i64.wrap (1 + (z : Int)) = (z1 : Int) := by rw [IntKind.wrap_i64]; omega
  have e2 : wrap64 (1 + (z : Int)) = (z1 : Int) := by rw [w64 _ (by omega)]; omega
  replace hz1 := hide hz1
  replace hc := hide hc
  go_enter Tryz.func126, Tryz.ntmps126
  go_wp2_with (first | ((with_reducible refine at_box 66 ?_); refine wl_boxC H rfl ?_; clear H; intro g1 w1 H q1 q2) | ((with_reducible refine at_alloc 66 ?_); refine wl_allocC H ?_; clear H; intro g3 w2 H q5 q6) | ((with_reducible refine at_load 3 ?_); refine wl_ld3 1 0 H (v := .int .i64 (z : Int)) rfl rfl rfl ?_) | ((with_reducible refine at_build 66 ?_); refine wl_val (run_buildC _ z1 (.func 147) #[] #[.pointer (some ⟨g1, 0, none⟩)] rfl rfl _) ?_) | ((with_reducible refine at_store 66 ?_); refine wl_storeC 0 (z' := z1) (f' := .func (.func 147) #[] #[.pointer (some ⟨g1, 0, none⟩)]) H rfl rfl rfl rfl ?_; clear H; intro w3 H))
  refine bodyPost_ret (results_cell0 rfl _ _ _ _ rfl (loadC (H.get 0 rfl))) rfl ?_
  have k1 := H.get 1 rfl
  have hb := H.below
  have hp := hc.out.below hb
  refine ⟨z1, _, rfl, ⟨by rw [hz1.out]; exact hc.out.sz.one, by have := hz1.out; omega, 147, _, rfl, clo93, fun W v I m hK hr hv hl hm => ?_⟩, hb⟩
  have l1 := (Array.getElem?_eq_some_iff.1 k1).1
  refine loop1_any g1 z f c W v I m b hb0 (hK.get k1 (fun h => by have := hR _ h; omega)) (hp.mono hK (fun k hk => hv k hk)) (fun h => ?_) hr (by simpa [lp] using hl) hm
  rcases hv _ h with h | h
  · have := hR _ h; omega
  · omega
end Go.Proofs.YtkfdikpnnkbgaaaGreatDoor
