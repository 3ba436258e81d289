/-
  single, end, option, loop.
-/
import Derived.Test.YtkfdikpnnkbgaaaGreatDoorCA
namespace Go.Proofs.YtkfdikpnnkbgaaaGreatDoor
open Go.RowKit
set_option linter.unusedVariables false
set_option linter.unusedSimpArgs false

theorem load25i {w : World} {g : Nat} {i : Ins} (h : w.heap[g]? = some (.cells (insA i) 102 (0, 0))) : (loadVar 24 ⟨g, 1, none⟩).run Tryz.prog w = .ok (setV i.s) w := by
  refine load25c (fun q hq => ?_)
  rw [cell_of_row w g (1 + q) _ 102 (0, 0) h]
  rcases (show q = 0 ∨ q = 1 ∨ q = 2 ∨ q = 3 by omega) with rfl | rfl | rfl | rfl <;> rfl
theorem St.ins {S : Nat → Prop} {w0 w : World} {L : List Ent} (H : St S w0 w L) (i : Nat) {b : Bool} {g : Nat} {x : Ins} (h : L[i]? = some (b, g, 102, insA x)) : (loadVar 24 ⟨g, 1, none⟩).run Tryz.prog w = .ok (setV x.s) w := load25i (H.get i h)
theorem St.ro {S : Nat → Prop} {w0 w : World} {L : List Ent} (H : St S w0 w L) {g : Nat} {t : TypeId} {xs : Array Value} (h : w.heap[g]? = some (.cells xs t (0, 0))) (hn : ∀ x ∈ L, x.2.1 ≠ g) : St S w0 w ((false, g, t, xs) :: L) := by
  refine ⟨H.but, fun x hx => ?_, fun x hx hr => ?_, ?_⟩
  · rcases List.mem_cons.1 hx with rfl | hx
    · exact h
    · exact H.all x hx
  · rcases List.mem_cons.1 hx with rfl | hx
    · cases hr
    · exact H.ok x hx hr
  · rw [List.map_cons, List.nodup_cons]
    refine ⟨fun h' => ?_, H.nd⟩
    obtain ⟨x, hx, e⟩ := List.mem_map.1 h'
    exact hn x hx e
section
variable {S : Nat → Prop} {w0 w w' : World} {L : List Ent} {ops : Array Oper} {rest : List Oper} {a : Act} {Q : Exit → Act → World → Prop} {dst : Option Nat} {x y z : Operand} {ty : TypeId} {pos : String} {after : Array Edge}
theorem wl_val {op : Op} {v : Value} (hrun : (execOp a.eval ⟨dst, op, ty, pos, after, none⟩).run Tryz.prog w = .ok (.value v) w') (h : wpList Tryz.prog ops Q rest (a.put dst v) w') : wpList Tryz.prog ops Q (⟨dst, op, ty, pos, after, none⟩ :: rest) a w := by
  refine wpList_plain rfl fun K hK => ?_
  unfold Oper.wp
  rw [hrun]
  exact hK _ _ h
theorem at_build (t : TypeId) {ps : Array (Nat × Operand)} (h : wpList Tryz.prog ops Q (⟨dst, .build t ps, ty, pos, after, none⟩ :: rest) a w) : wpList Tryz.prog ops Q (⟨dst, .build t ps, ty, pos, after, none⟩ :: rest) a w := h
theorem run_buildI3 (ev : Operand → Value) (o m : Int) (s : S4) (h0 : ev x = .int .i64 o) (h1 : ev y = setV s) (h2 : ev z = .int .i64 m) (w : World) : (execOp ev ⟨dst, .build 102 #[(0, x), (1, y), (2, z)], ty, pos, after, none⟩).run Tryz.prog w = .ok (.value (insV ⟨o, s, m, 0⟩)) w := by
  unfold execOp
  simp only [List.map_toArray, List.map_cons, List.map_nil, h0, h1, h2]
  kernel_rfl
theorem run_buildI1 (ev : Operand → Value) (o : Int) (h0 : ev x = .int .i64 o) (w : World) : (execOp ev ⟨dst, .build 102 #[(0, x)], ty, pos, after, none⟩).run Tryz.prog w = .ok (.value (insV ⟨o, noSet, 0, 0⟩)) w := by
  unfold execOp
  simp only [List.map_toArray, List.map_cons, List.map_nil, h0]
  kernel_rfl
theorem run_buildI2 (ev : Operand → Value) (o : Int) (s : S4) (h0 : ev x = .int .i64 o) (h1 : ev y = setV s) (w : World) : (execOp ev ⟨dst, .build 102 #[(0, x), (1, y)], ty, pos, after, none⟩).run Tryz.prog w = .ok (.value (insV ⟨o, s, 0, 0⟩)) w := by
  unfold execOp
  simp only [List.map_toArray, List.map_cons, List.map_nil, h0, h1]
  kernel_rfl
theorem run_buildI22 (ev : Operand → Value) (m o : Int) (hz : ev z = .int .i64 2) (h0 : ev x = .int .i64 m) (h1 : ev y = .int .i64 o) (w : World) : (execOp ev ⟨dst, .build 102 #[(0, z), (2, x), (3, y)], ty, pos, after, none⟩).run Tryz.prog w = .ok (.value (insV ⟨2, noSet, m, o⟩)) w := by
  unfold execOp
  simp only [List.map_toArray, List.map_cons, List.map_nil, hz, h0, h1]
  kernel_rfl
end
/-- A put that ends by one append. -/
theorem putE_of {W w2 : World} {v v2 : Value} {J : List Ins} (r2 : RI w2 v2 J) (b2 : But (fun k => v.ownBlock = some k) W w2) (o2 : v2.ownBlock = v.ownBlock ∨ v2.ownBlock = some (W.heap.size + 1)) : PutE W v J (.returned v2) w2 :=
  ⟨_, rfl, r2, b2, fun k hk => by
    rcases o2 with o2 | o2
    · exact .inl (o2 ▸ hk)
    · right; rw [o2] at hk; cases hk; omega⟩
theorem PutE.after {W w2 w3 : World} {v v2 : Value} {J : List Ins} {e : Ending} (b2 : But (fun k => v.ownBlock = some k) W w2) (o2 : ∀ k, v2.ownBlock = some k → v.ownBlock = some k ∨ W.heap.size ≤ k) (h : PutE w2 v2 J e w3) : PutE W v J e w3 := by
  obtain ⟨v3, rfl, r3, b3, o3⟩ := h
  refine ⟨v3, rfl, r3, b2.trans b3 (fun i hi h => ?_), fun k hk => ?_⟩
  · rcases o2 i h with h | h
    · exact h
    · omega
  · rcases o3 k hk with h | h
    · exact o2 k h
    · right; have := b2.size; omega
set_option maxHeartbeats 400000 in
theorem single1_any (g : Nat) (i : Ins) (W : World) (v : Value) (I : List Ins) (m : Nat) (hg : W.heap[g]? = some (.cells (insA i) 102 (0, 0))) (hr : RI W v I) (hl : I.length ≤ 100000) :
    Calls Tryz.prog 123 #[v, .int .i64 ((m : Nat) : Int), .pointer (some ⟨g, 0, none⟩)] W (PutE W v (I ++ [⟨i.op, i.s, (m : Int), 0⟩])) := by
  have H := (St.start Nope W).ro hg (fun _ h => (List.not_mem_nil h).elim)
  obtain ⟨a, c, hv⟩ := hr.val
  subst hv
  replace hr := hide hr
  replace hg := hide hg
  generalize hI : I ++ [(⟨i.op, i.s, (m : Int), 0⟩ : Ins)] = J
  go_enter Tryz.func123, Tryz.ntmps123
  go_wp2_with (first | ((with_reducible refine at_load 3 ?_); refine wl_ld3 0 0 H (v := .int .i64 i.op) rfl rfl rfl ?_) | ((with_reducible refine at_load 24 ?_); refine wl_loadA 24 rfl (H.ins 0 rfl) ?_) | ((with_reducible refine at_build 102 ?_); refine wl_val (run_buildI3 _ i.op m i.s rfl rfl rfl _) ?_) | ((with_reducible refine at_ins ?_); refine wl_ins (i := ⟨i.op, i.s, (m : Int), 0⟩) hr.out (by omega) (fun _ => rfl) (fun _ => rfl) rfl ?_; intro u v2 w2 r2 b2 o2))
  go_ret
  exact putE_of (hI ▸ r2) b2 o2
set_option maxHeartbeats 400000 in
theorem end1_any (W : World) (v : Value) (I : List Ins) (m : Int) (hr : RI W v I) (hl : I.length ≤ 100000) :
    Calls Tryz.prog 95 #[v, .int .i64 m] W (PutE W v (I ++ [⟨3, noSet, 0, 0⟩])) := by
  obtain ⟨a, c, hv⟩ := hr.val
  subst hv
  replace hr := hide hr
  generalize hI : I ++ [(⟨3, noSet, 0, 0⟩ : Ins)] = J
  go_enter Tryz.func95, Tryz.ntmps95
  go_wp2_with (first | ((with_reducible refine at_build 102 ?_); refine wl_val (run_buildI1 _ 3 rfl _) ?_) | ((with_reducible refine at_ins ?_); refine wl_ins (i := ⟨3, noSet, 0, 0⟩) hr.out (by omega) (fun _ => rfl) (fun _ => rfl) rfl ?_; intro u v2 w2 r2 b2 o2))
  go_ret
  exact putE_of (hI ▸ r2) b2 o2
section
variable {w w' : World} {ops : Array Oper} {o : Oper} {a : Act} {Q : Exit → Act → World → Prop} {K : Act → World → Prop} {E : Prop} {x : Operand}
theorem wp_bsI {i : Ins} (ho : o.op = .buildSlice 30 1 #[(0, x)]) (hx : a.eval x = insV i) (h : K (a.put o.dst (.slice (some ⟨w.heap.size, 0, none⟩) 1 1)) (w.alloc (.cells (insA i) 102))) : o.wp Tryz.prog a w K Q := by
  unfold Oper.wp execOp
  simp only [ho, List.map_toArray, List.map_cons, List.map_nil, hx, Sem.run_bind, run_bsI, Result.andThen_ok, Sem.run_pure]
  exact h
theorem step_clo {dst : Option Nat} {ty : TypeId} {pos : String} {after : Array Edge} {ps : Array Operand} {ts : Array TypeId} {k : Nat} {caps xs : Array Value} (ho : o = ⟨dst, .call { callee := .value x, args := ps, argTypes := ts }, ty, pos, after, none⟩) (hx : a.eval x = .func (.func k) #[] caps) (hp : ps.map a.eval = xs) (hc : Clo k)
    (h : Calls Tryz.prog k (xs ++ caps) w fun e w' => ∃ u, e = .returned u ∧ K (a.put dst u) w') : if Region.wanted o (yielded ops a.tmps) = true then Oper.wp Tryz.prog o a w K Q else E := by
  subst ho
  rw [if_pos (by simp [Region.wanted])]
  unfold Oper.wp
  have e : (execOp a.eval ⟨dst, .call { callee := .value x, args := ps, argTypes := ts }, ty, pos, after, none⟩).run Tryz.prog w = .ok (.enter k (xs ++ caps)) w := by
    simp [execOp, resolve, invoke, Deferred.ofValue, hx, hp, hc (xs ++ caps) w]
  rw [e]
  refine h.mono ?_
  rintro e w' ⟨u, rfl, hw⟩
  exact hw
theorem step_clo2 {dst : Option Nat} {ty : TypeId} {pos : String} {after : Array Edge} {p q : Operand} {ts : Array TypeId} {k : Nat} {caps : Array Value} {u1 u2 : Value} (ho : o = ⟨dst, .call { callee := .value x, args := #[p, q], argTypes := ts }, ty, pos, after, none⟩) (hx : a.eval x = .func (.func k) #[] caps) (hp : a.eval p = u1) (hq : a.eval q = u2) (hc : Clo k)
    (h : Calls Tryz.prog k (#[u1, u2] ++ caps) w fun e w' => ∃ u, e = .returned u ∧ K (a.put dst u) w') : if Region.wanted o (yielded ops a.tmps) = true then Oper.wp Tryz.prog o a w K Q else E := step_clo ho hx (by simp [hp, hq]) hc h
theorem step_app29 (hgd : o.guard = none) (s x : Operand) (ho : o.op = .call { callee := .builtin .append, args := #[s, x], argTypes := #[30, 30] }) (v1 v2 v' : Value) (w' : World) (hs : a.eval s = v1) (hx : a.eval x = v2)
    (hr : (Builtin.append_ #[30, 30] o.type #[v1, v2]).run Tryz.prog w = .ok v' w') (h : K (a.put o.dst v') w') :
    if Region.wanted o (yielded ops a.tmps) = true then Oper.wp Tryz.prog o a w K Q else E := by
  have hw : Region.wanted o (yielded ops a.tmps) = true := by simp [Region.wanted, hgd]
  rw [if_pos hw]
  unfold Oper.wp
  simp [execOp, ho, resolve, invoke, builtin, hs, hx, hr, Result.andThen]
  exact h
end
set_option maxHeartbeats 1000000 in
set_option maxRecDepth 100000 in
theorem option1_any (gc go : Nat) (z : Nat) (f : Value) (c : Cd) (o : Nat) (W : World) (v : Value) (I : List Ins) (m : Nat) (hgc : W.heap[gc]? = some (.cells (cdA z f) 66 (0, 0))) (hgo : W.heap[go]? = some (.cells #[.int .i64 (o : Int)] 3 (0, 0))) (hf : PutOk (fun k => v.ownBlock = some k) W f c) (hn : v.ownBlock ≠ some gc ∧ v.ownBlock ≠ some go) (hr : RI W v I) (hl : I.length + (1 + c.n) ≤ 100000) (hm : m ≤ 100000) :
    Calls Tryz.prog 148 #[v, .int .i64 ((m : Nat) : Int), .pointer (some ⟨gc, 0, none⟩), .pointer (some ⟨go, 0, none⟩)] W (PutE W v (I ++ (opt c o).put I.length m)) := by
  obtain ⟨nf, caps, rfl, hcl, PF⟩ := hf
  obtain ⟨a, cp, hv⟩ := hr.val
  subst hv
  obtain ⟨n1, hn1⟩ : ∃ n1, n1 = I.length + 1 := ⟨_, rfl⟩
  have d1 : W.cell? ⟨gc, 1, none⟩ = some (.func (.func nf) #[] caps) := by rw [cell_of_row W gc 1 _ 66 (0, 0) hgc]; rfl
  have d2 : W.cell? ⟨go, 0, none⟩ = some (.int .i64 (o : Int)) := by rw [cell_of_row W go 0 _ 3 (0, 0) hgo]; rfl
  have lc : gc < W.heap.size := (Array.getElem?_eq_some_iff.1 hgc).1
  have lo : go < W.heap.size := (Array.getElem?_eq_some_iff.1 hgo).1
  have BA : Below W.heap.size W (W.drew.alloc (.cells (insA ⟨2, noSet, (n1 : Int), (o : Int)⟩) 102)) := ((Below.refl _ W).drew).alloc (Nat.le_refl _) _
  obtain ⟨v2, w2, R2, r2, g2, o2⟩ := run_appI (W.drew.alloc (.cells (insA ⟨2, noSet, (n1 : Int), (o : Int)⟩) 102)) 30 _ I ⟨2, noSet, (n1 : Int), (o : Int)⟩ (hr.below BA) (by omega) W.heap.size (heap_alloc_new W.drew _)
  have e1 := (BA.cell (p := ⟨gc, 1, none⟩) lc).trans d1
  have e2 := (BA.cell (p := ⟨go, 0, none⟩) lo).trans d2
  have b2 : But (fun k => (Value.slice a I.length cp).ownBlock = some k) W w2 := (but_of_below BA _ (fun k h1 h2 => by omega)).grown g2 (fun k e _ => e)
  have f1 := (World.cell?_of_block (a := ⟨gc, 1, none⟩) (b2.block gc lc hn.1)).trans d1
  have f2 := (World.cell?_of_block (a := ⟨go, 0, none⟩) (b2.block go lo hn.2)).trans d2
  have PP := hide (PF w2 v2 (I ++ [⟨2, noSet, (n1 : Int), (o : Int)⟩]) m ((Kp.refl _ W).but b2 (fun i h => .inl h)) r2 (fun k hk => by
    rcases o2 with o2 | o2
    · exact .inl (o2 ▸ hk)
    · right; rw [o2] at hk; cases hk; simp) (by simp; omega) hm)
  replace o2 : Hid (∀ k, v2.ownBlock = some k → (Value.slice a I.length cp).ownBlock = some k ∨ W.heap.size ≤ k) := fun k hk => by
    rcases o2 with o2 | o2
    · exact .inl (o2 ▸ hk)
    · right; rw [o2] at hk; cases hk; simp
  have hlen : IntKind.i64.wrap ((I.length : Int) + 1) = (n1 : Int) := by rw [IntKind.wrap_i64]; omega
  replace hn1 := hide hn1
  replace hr := hide hr
  replace hgc := hide hgc
  replace hgo := hide hgo
  replace r2 := hide r2
  replace g2 := hide g2
  replace PF := hide PF
  replace b2 := hide b2
  clear BA
  go_enter Tryz.func148, Tryz.ntmps148
  go_wp2_with fail
  refine wp_region_noPanic ?_
  refine wp_region_held_drew (S := (fun w' => w'.cell? ⟨gc, 1, none⟩ = some (.func (.func nf) #[] caps) ∧ w'.cell? ⟨go, 0, none⟩ = some (.int .i64 (o : Int)))) (by kernel_rfl) ⟨d1, d2⟩ (fun hH0 => ?_)
  refine wpAnyH_take (i := 0) (oi := { dst := some 7, op := Op.fieldAddr 66 (Operand.tmp 2) 1, type := 0, pos := "code.go:118", after := #[], guard := none }) (v := ?_) rfl (by kernel_rfl) (by kernel_rfl) (by kernel_rfl) (fun _ _ _ h => h) (Or.inl ⟨by rfl, ?_⟩) hH0 ?_
  rotate_left
  · intro w' hw'
    obtain ⟨c1, c2⟩ := hw'
    go_simp
    try with_reducible rfl
  try simp only [Act.put, List.setIfInBounds_toArray, List.set_cons_zero, List.set_cons_succ]
  refine wpAnyH_take (i := 1) (oi := { dst := some 8, op := Op.load 64 (Operand.tmp 7), type := 64, pos := "code.go:118", after := #[{ on := 0, ground := Ground.data }], guard := none }) (v := ?_) rfl (by kernel_rfl) (by kernel_rfl) (by kernel_rfl) (fun _ _ _ h => h) (Or.inl ⟨by rfl, ?_⟩) hH0 ?_
  rotate_left
  · intro w' hw'
    obtain ⟨c1, c2⟩ := hw'
    go_simp
    try with_reducible rfl
  try simp only [Act.put, List.setIfInBounds_toArray, List.set_cons_zero, List.set_cons_succ]
  refine wpAnyH_take (i := 2) (oi := { dst := some 9, op := Op.move (Operand.tmp 0), type := 30, pos := "code.go:118", after := #[], guard := none }) (v := ?_) rfl (by kernel_rfl) (by kernel_rfl) (by kernel_rfl) (fun _ _ _ h => h) (Or.inl ⟨by rfl, ?_⟩) hH0 ?_
  rotate_left
  · intro w' hw'
    obtain ⟨c1, c2⟩ := hw'
    go_simp
    try with_reducible rfl
  try simp only [Act.put, List.setIfInBounds_toArray, List.set_cons_zero, List.set_cons_succ]
  refine wpAnyH_take (i := 3) (oi := { dst := some 10, op := Op.move (Operand.tmp 0), type := 30, pos := "code.go:118", after := #[], guard := none }) (v := ?_) rfl (by kernel_rfl) (by kernel_rfl) (by kernel_rfl) (fun _ _ _ h => h) (Or.inl ⟨by rfl, ?_⟩) hH0 ?_
  rotate_left
  · intro w' hw'
    obtain ⟨c1, c2⟩ := hw'
    go_simp
    try with_reducible rfl
  try simp only [Act.put, List.setIfInBounds_toArray, List.set_cons_zero, List.set_cons_succ]
  refine wpAnyH_take (i := 4) (oi := { dst := some 11, op := Op.call { callee := Callee.builtin Builtin.len, args := #[Operand.tmp 10], argTypes := #[30] }, type := 3, pos := "code.go:118", after := #[{ on := 3, ground := Ground.data }], guard := none }) (v := ?_) rfl (by kernel_rfl) (by kernel_rfl) (by kernel_rfl) (fun _ _ _ h => h) (Or.inl ⟨by rfl, ?_⟩) hH0 ?_
  rotate_left
  · intro w' hw'
    obtain ⟨c1, c2⟩ := hw'
    go_simp
    try with_reducible rfl
  try simp only [Act.put, List.setIfInBounds_toArray, List.set_cons_zero, List.set_cons_succ]
  refine wpAnyH_take (i := 5) (oi := { dst := some 12, op := Op.binOp BinOp.add 3 (Operand.tmp 11) (Operand.const (Value.int IntKind.i64 1)) 3, type := 3, pos := "code.go:118", after := #[{ on := 4, ground := Ground.data }], guard := none }) (v := ?_) rfl (by kernel_rfl) (by kernel_rfl) (by kernel_rfl) (fun _ _ _ h => h) (Or.inl ⟨by rfl, ?_⟩) hH0 ?_
  rotate_left
  · intro w' hw'
    obtain ⟨c1, c2⟩ := hw'
    go_simp
    try with_reducible rfl
  try simp only [Act.put, List.setIfInBounds_toArray, List.set_cons_zero, List.set_cons_succ]
  refine wpAnyH_take (i := 6) (oi := { dst := some 13, op := Op.load 3 (Operand.tmp 3), type := 3, pos := "code.go:118", after := #[], guard := none }) (v := ?_) rfl (by kernel_rfl) (by kernel_rfl) (by kernel_rfl) (fun _ _ _ h => h) (Or.inl ⟨by rfl, ?_⟩) hH0 ?_
  rotate_left
  · intro w' hw'
    obtain ⟨c1, c2⟩ := hw'
    go_simp
    try with_reducible rfl
  try simp only [Act.put, List.setIfInBounds_toArray, List.set_cons_zero, List.set_cons_succ]
  refine wpAnyH_take (i := 7) (oi := { dst := some 14, op := Op.build 102 #[(0, Operand.const (Value.int IntKind.i64 2)), (2, Operand.tmp 12), (3, Operand.tmp 13)], type := 102, pos := "code.go:118", after := #[{ on := 5, ground := Ground.data }, { on := 6, ground := Ground.data }], guard := none }) (v := insV ⟨2, noSet, (n1 : Int), (o : Int)⟩) rfl (by kernel_rfl) (by kernel_rfl) (by kernel_rfl) (fun _ _ _ h => h) (Or.inl ⟨by rfl, fun w' hw' => run_buildI22 _ _ _ rfl rfl rfl _⟩) hH0 ?_
  try simp only [Act.put, List.setIfInBounds_toArray, List.set_cons_zero, List.set_cons_succ]
  refine wpAnyH_take (i := 10) (oi := { dst := some 17, op := Op.move (Operand.tmp 1), type := 3, pos := "code.go:118", after := #[], guard := none }) (v := ?_) rfl (by kernel_rfl) (by kernel_rfl) (by kernel_rfl) (fun _ _ _ h => h) (Or.inl ⟨by rfl, ?_⟩) hH0 ?_
  rotate_left
  · intro w' hw'
    obtain ⟨c1, c2⟩ := hw'
    go_simp
    try with_reducible rfl
  try simp only [Act.put, List.setIfInBounds_toArray, List.set_cons_zero, List.set_cons_succ]
  refine wpAnyH_ready (rs := [8]) (by kernel_rfl) (by simp) ?_
  refine AllReadyH.cons (o := { dst := some 15, op := Op.buildSlice 30 1 #[(0, Operand.tmp 14)], type := 30, pos := "code.go:118", after := #[{ on := 7, ground := Ground.data }], guard := none }) rfl (fun K hK => ?_) AllReadyH.nil
  rw [if_pos (by rfl)]
  refine wp_bsI rfl rfl ?_
  refine hK.out _ _ ⟨e1, e2⟩ (fun hH1 => ?_)
  clear hK
  try simp only [Act.put, List.setIfInBounds_toArray, List.set_cons_zero, List.set_cons_succ]
  refine wpAnyH_ready (rs := [9]) (by kernel_rfl) (by simp) ?_
  refine AllReadyH.cons (o := { dst := some 16, op := Op.call { callee := Callee.builtin Builtin.append, args := #[Operand.tmp 9, Operand.tmp 15], argTypes := #[30, 30] }, type := 30, pos := "code.go:118", after := #[{ on := 2, ground := Ground.data }, { on := 8, ground := Ground.data }], guard := none }) rfl (fun K hK => ?_) AllReadyH.nil
  refine step_app29 rfl (.tmp 9) (.tmp 15) rfl _ _ _ _ rfl rfl R2 ?_
  refine hK.out _ _ ⟨f1, f2⟩ (fun hH2 => ?_)
  clear hK
  try simp only [Act.put, List.setIfInBounds_toArray, List.set_cons_zero, List.set_cons_succ]
  refine wpAnyH_ready (rs := [11]) (by kernel_rfl) (by simp) ?_
  refine AllReadyH.cons (o := { dst := some 18, op := Op.call { callee := Callee.value (Operand.tmp 8), args := #[Operand.tmp 16, Operand.tmp 17], argTypes := #[30, 3] }, type := 30, pos := "code.go:118", after := #[{ on := 1, ground := Ground.data }, { on := 9, ground := Ground.data }, { on := 10, ground := Ground.data }, { on := 9, ground := Ground.chain }], guard := none }) rfl (fun K hK => ?_) AllReadyH.nil
  refine step_clo2 (u1 := v2) (u2 := .int .i64 (m : Int)) rfl rfl rfl rfl hcl ?_
  refine (PP.out).mono ?_
  rintro e w3 ⟨v3, rfl, r3, b3, o3⟩
  refine ⟨v3, rfl, ?_⟩
  refine hK.out _ _ ⟨?_, ?_⟩ (fun hH3 => ?_)
  · exact (World.cell?_of_block (a := ⟨gc, 1, none⟩) (b3.block gc (by have := b2.out.size; omega) (fun h => by rcases o2.out gc h with h | h; exact hn.1 h; omega))).trans f1
  · exact (World.cell?_of_block (a := ⟨go, 0, none⟩) (b3.block go (by have := b2.out.size; omega) (fun h => by rcases o2.out go h with h | h; exact hn.2 h; omega))).trans f2
  replace b3 := hide b3
  replace r3 := hide r3
  replace o3 := hide o3
  clear hK
  try simp only [Act.put, List.setIfInBounds_toArray, List.set_cons_zero, List.set_cons_succ]
  refine wpAnyH_take (i := 12) (oi := { dst := some 6, op := Op.assign (Operand.tmp 18), type := 30, pos := "code.go:118", after := #[{ on := 11, ground := Ground.data }, { on := 11, ground := Ground.chain }, { on := 0, ground := Ground.phase }, { on := 1, ground := Ground.phase }, { on := 2, ground := Ground.phase }, { on := 3, ground := Ground.phase }, { on := 4, ground := Ground.phase }, { on := 5, ground := Ground.phase }, { on := 6, ground := Ground.phase }, { on := 7, ground := Ground.phase }, { on := 8, ground := Ground.phase }, { on := 9, ground := Ground.phase }, { on := 10, ground := Ground.phase }, { on := 11, ground := Ground.phase }], guard := none }) (v := ?_) rfl (by kernel_rfl) (by kernel_rfl) (by kernel_rfl) (fun _ _ _ h => h) (Or.inl ⟨by rfl, ?_⟩) hH3 ?_
  rotate_left
  · intro w' hw'
    obtain ⟨c1, c2⟩ := hw'
    go_simp
    try with_reducible rfl
  try simp only [Act.put, List.setIfInBounds_toArray, List.set_cons_zero, List.set_cons_succ]
  refine wpAnyH_done (by kernel_rfl) ?_ _
  refine NoPanic.normal ?_
  go_wp2_with fail
  go_ret
  have h3 := PutE.after b2.out o2.out ⟨v3, rfl, r3.out, b3.out, o3.out⟩
  have e3 : I ++ (opt c o).put I.length m = I ++ [⟨2, noSet, (n1 : Int), (o : Int)⟩] ++ c.put (I ++ [(⟨2, noSet, (n1 : Int), (o : Int)⟩ : Ins)]).length m := by
    simp only [opt, List.append_assoc, List.singleton_append, List.length_append, List.length_cons, List.length_nil, hn1.out, Nat.zero_add]
  rw [e3]
  exact h3
end Go.Proofs.YtkfdikpnnkbgaaaGreatDoor
