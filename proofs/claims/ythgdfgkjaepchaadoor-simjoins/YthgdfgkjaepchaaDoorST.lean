/-
  cut, a pattern that is not too great: the region that appends.
-/
import Derived.Test.YthgdfgkjaepchaaDoorEA
import Derived.Test.YthgdfgkjaepchaaDoorCL
import Derived.Orders
namespace Go.Proofs.YthgdfgkjaepchaaDoor
open Go.RowKit
set_option linter.unusedVariables false
set_option linter.unusedSimpArgs false

section
variable {w w' : World} {ops : Array Oper} {o : Oper} {a : Act} {Q : Exit → Act → World → Prop} {K : Act → World → Prop} {E : Prop} {dst : Option Nat} {x y : Operand} {ty : TypeId} {pos : String} {after : Array Edge}
theorem step_val {v : Value} (hgd : o.guard = none) (hr : (execOp a.eval o).run Tryd.prog w = .ok (.value v) w') (h : K (a.put o.dst v) w') : if Region.wanted o (yielded ops a.tmps) = true then Oper.wp Tryd.prog o a w K Q else E := by
  have hw : Region.wanted o (yielded ops a.tmps) = true := by simp [Region.wanted, hgd]
  rw [if_pos hw]
  unfold Oper.wp
  rw [hr]
  exact h
theorem step_skip (hgd : o.guard = none) (hd : o.dst = none) (hr : (execOp a.eval o).run Tryd.prog w = .ok .skip w') (h : K a w') : if Region.wanted o (yielded ops a.tmps) = true then Oper.wp Tryd.prog o a w K Q else E := by
  have hw : Region.wanted o (yielded ops a.tmps) = true := by simp [Region.wanted, hgd]
  rw [if_pos hw]
  unfold Oper.wp
  rw [hr]
  unfold Oper.upon
  rw [hd]
  exact h
theorem run_bs25x (ev : Operand → Value) (x : Operand) (ty : TypeId) (pos : String) (k : Int) (s : S4) (v : Value) (mn mx : Int) (hx : ev x = reV k s v mn mx) (w : World) : (execOp ev ⟨dst, .buildSlice 25 1 #[(0, x)], ty, pos, after, none⟩).run Tryd.prog w = .ok (.value (.slice (some ⟨w.heap.size, 0, none⟩) 1 1)) (w.alloc (.cells (reA k s v mn mx) 27)) := by
  unfold execOp
  simp only [List.map_toArray, List.map_cons, List.map_nil, hx, Sem.run_bind, run_bs26, Result.andThen_ok, Sem.run_pure]
theorem run_app25x (ev : Operand → Value) (s x : Operand) (pos : String) {v1 v2 v' : Value} (hs : ev s = v1) (hx : ev x = v2) (hr : (Builtin.append_ #[25, 25] 25 #[v1, v2]).run Tryd.prog w = .ok v' w') : (execOp ev ⟨dst, .call { callee := .builtin .append, args := #[s, x], argTypes := #[25, 25] }, 25, pos, after, none⟩).run Tryd.prog w = .ok (.value v') w' := by
  simp [execOp, resolve, invoke, builtin, hs, hx, hr, Result.andThen]
theorem run_st25x (ev : Operand → Value) {ad : Addr} {v : Value} (hx : ev x = .pointer (some ad)) (hy : ev y = v) (hr : (storeVar 25 ad v).run Tryd.prog w = .ok () w') : (execOp ev ⟨none, .store 25 x y, ty, pos, after, none⟩).run Tryd.prog w = .ok .skip w' := by
  unfold execOp
  simp only [hx, hy, Instr.storeAt, Instr.sureAddr, Sem.run_bind, Sem.run_pure, Result.andThen_ok, hr]
theorem run_ld27x (ev : Operand → Value) {ad : Addr} {v : Value} (hx : ev x = .pointer (some ad)) (hr : (loadVar 27 ad).run Tryd.prog w = .ok v w) : (execOp ev ⟨dst, .load 27 x, ty, pos, after, none⟩).run Tryd.prog w = .ok (.value v) w := by
  unfold execOp
  simp only [hx, Instr.loadAt, Instr.sureAddr, Sem.run_bind, Sem.run_pure, Result.andThen_ok, hr]
end
set_option maxHeartbeats 4000000 in
set_option maxRecDepth 100000 in
theorem reg29_7 (w : World) (g3 g7 gb b off i n cc vn vc : Nat) (va : Option Addr) (dd d1 : Int) (k1 : Int) (s1 : S4) (l1 : Value) (mn1 mx1 : Int)
    (c7 : w.cell? ⟨g7, 5, none⟩ = some (.slice va vn vc)) (c3 : w.cell? ⟨g3, 5, none⟩ = some (.slice (some ⟨b, off, none⟩) n cc)) (hld : (loadVar 27 ⟨b, off + i * 8, none⟩).run Tryd.prog w.drew = .ok (reV k1 s1 l1 mn1 mx1) w.drew) (hin : (i : Int) < (n : Int)) (hw1 : dd - 1 = d1) (hw2 : IntKind.i64.wrap d1 = d1) (hw3 : wrap64 d1 = d1)
    (u0 u4 u5 u6 u9 u10 u11 u12 u13 u14 u15 u16 u17 u18 u19 u20 u21 u22 u23 u24 u25 u26 u27 u28 u29 u30 u31 u32 u33 u34 u35 u36 u37 u38 u39 u40 u41 u42 u43 u44 u45 u46 u47 : Value) (Q : Exit → Act → World → Prop)
    (h : Calls Tryd.prog 29 #[reV k1 s1 l1 mn1 mx1, .int .i64 d1, .pointer (some ⟨gb, 0, none⟩)] w.drew fun e w4 => ∃ k4 s4 l4 mn4 mx4 v2 w5 w6, e = .returned (reV k4 s4 l4 mn4 mx4) ∧ w4.cell? ⟨g7, 5, none⟩ = some (.slice va vn vc) ∧ (w4.alloc (.cells (reA k4 s4 l4 mn4 mx4) 27)).cell? ⟨g7, 5, none⟩ = some (.slice va vn vc) ∧ (Builtin.append_ #[25, 25] 25 #[.slice va vn vc, .slice (some ⟨w4.heap.size, 0, none⟩) 1 1]).run Tryd.prog (w4.alloc (.cells (reA k4 s4 l4 mn4 mx4) 27)) = .ok v2 w5 ∧ (storeVar 25 ⟨g7, 5, none⟩ v2).run Tryd.prog w5 = .ok () w6 ∧ Q .normal { tmps := (List.toArray ((u0 :: .int .i64 dd :: .pointer (some ⟨gb, 0, none⟩) :: .pointer (some ⟨g3, 0, none⟩) :: u4 :: u5 :: u6 :: .pointer (some ⟨g7, 0, none⟩) :: .int .i64 (i : Int) :: u9 :: u10 :: u11 :: u12 :: u13 :: u14 :: u15 :: u16 :: u17 :: u18 :: u19 :: u20 :: u21 :: u22 :: u23 :: u24 :: u25 :: u26 :: u27 :: u28 :: u29 :: u30 :: u31 :: u32 :: .pointer (some ⟨g7, 5, none⟩) :: .slice va vn vc :: .pointer (some ⟨g3, 5, none⟩) :: .slice (some ⟨b, off, none⟩) n cc :: .int .i64 (i : Int) :: .pointer (some ⟨b, off + i * 8, none⟩) :: reV k1 s1 l1 mn1 mx1 :: .int .i64 dd :: .int .i64 d1 :: .pointer (some ⟨gb, 0, none⟩) :: reV k4 s4 l4 mn4 mx4 :: .slice (some ⟨w4.heap.size, 0, none⟩) 1 1 :: v2 :: .pointer (some ⟨g7, 5, none⟩) :: u47 :: []) : List Value)), defers := [] } w6) :
    (Code.region 7 #[{ dst := some 33, op := Op.fieldAddr 27 (Operand.tmp 7) 2, type := 0, pos := "law.go:29", after := #[], guard := none }, { dst := some 34, op := Op.load 25 (Operand.tmp 33), type := 25, pos := "law.go:29", after := #[{ on := 0, ground := Ground.data }], guard := none }, { dst := some 35, op := Op.fieldAddr 27 (Operand.tmp 3) 2, type := 0, pos := "law.go:29", after := #[], guard := none }, { dst := some 36, op := Op.load 25 (Operand.tmp 35), type := 25, pos := "law.go:29", after := #[{ on := 2, ground := Ground.data }], guard := none }, { dst := some 37, op := Op.move (Operand.tmp 8), type := 3, pos := "law.go:29", after := #[], guard := none }, { dst := some 38, op := Op.indexAddr 25 (Operand.tmp 36) (Operand.tmp 37), type := 0, pos := "law.go:29", after := #[{ on := 3, ground := Ground.data }, { on := 4, ground := Ground.data }], guard := none }, { dst := some 39, op := Op.load 27 (Operand.tmp 38), type := 27, pos := "law.go:29", after := #[{ on := 5, ground := Ground.data }], guard := none }, { dst := some 40, op := Op.move (Operand.tmp 1), type := 3, pos := "law.go:29", after := #[], guard := none }, { dst := some 41, op := Op.binOp BinOp.sub 3 (Operand.tmp 40) (Operand.const (Value.int IntKind.i64 1)) 3, type := 3, pos := "law.go:29", after := #[{ on := 7, ground := Ground.data }], guard := none }, { dst := some 42, op := Op.move (Operand.tmp 2), type := 45, pos := "law.go:29", after := #[], guard := none }, { dst := some 43, op := Op.call { callee := Callee.value (Operand.func 29), args := #[Operand.tmp 39, Operand.tmp 41, Operand.tmp 42], argTypes := #[27, 3, 45] }, type := 27, pos := "law.go:29", after := #[{ on := 6, ground := Ground.data }, { on := 8, ground := Ground.data }, { on := 9, ground := Ground.data }], guard := none }, { dst := some 44, op := Op.buildSlice 25 1 #[(0, Operand.tmp 43)], type := 25, pos := "law.go:29", after := #[{ on := 10, ground := Ground.data }], guard := none }, { dst := some 45, op := Op.call { callee := Callee.builtin Builtin.append, args := #[Operand.tmp 34, Operand.tmp 44], argTypes := #[25, 25] }, type := 25, pos := "law.go:29", after := #[{ on := 1, ground := Ground.data }, { on := 11, ground := Ground.data }, { on := 10, ground := Ground.chain }], guard := none }, { dst := some 46, op := Op.fieldAddr 27 (Operand.tmp 7) 2, type := 0, pos := "law.go:29", after := #[{ on := 0, ground := Ground.phase }, { on := 1, ground := Ground.phase }, { on := 2, ground := Ground.phase }, { on := 3, ground := Ground.phase }, { on := 4, ground := Ground.phase }, { on := 5, ground := Ground.phase }, { on := 6, ground := Ground.phase }, { on := 7, ground := Ground.phase }, { on := 8, ground := Ground.phase }, { on := 9, ground := Ground.phase }, { on := 10, ground := Ground.phase }, { on := 11, ground := Ground.phase }, { on := 12, ground := Ground.phase }], guard := none }, { dst := none, op := Op.store 25 (Operand.tmp 46) (Operand.tmp 45), type := 0, pos := "law.go:29", after := #[{ on := 13, ground := Ground.data }, { on := 12, ground := Ground.data }, { on := 12, ground := Ground.chain }, { on := 0, ground := Ground.phase }, { on := 1, ground := Ground.phase }, { on := 2, ground := Ground.phase }, { on := 3, ground := Ground.phase }, { on := 4, ground := Ground.phase }, { on := 5, ground := Ground.phase }, { on := 6, ground := Ground.phase }, { on := 7, ground := Ground.phase }, { on := 8, ground := Ground.phase }, { on := 9, ground := Ground.phase }, { on := 10, ground := Ground.phase }, { on := 11, ground := Ground.phase }, { on := 12, ground := Ground.phase }], guard := none }] true).wp Tryd.prog Q { tmps := (List.toArray ((u0 :: .int .i64 dd :: .pointer (some ⟨gb, 0, none⟩) :: .pointer (some ⟨g3, 0, none⟩) :: u4 :: u5 :: u6 :: .pointer (some ⟨g7, 0, none⟩) :: .int .i64 (i : Int) :: u9 :: u10 :: u11 :: u12 :: u13 :: u14 :: u15 :: u16 :: u17 :: u18 :: u19 :: u20 :: u21 :: u22 :: u23 :: u24 :: u25 :: u26 :: u27 :: u28 :: u29 :: u30 :: u31 :: u32 :: u33 :: u34 :: u35 :: u36 :: u37 :: u38 :: u39 :: u40 :: u41 :: u42 :: u43 :: u44 :: u45 :: u46 :: u47 :: []) : List Value)), defers := [] } w := by
  replace h := hide h
  refine wp_region_noPanic ?_
  refine wp_region_any (by kernel_rfl) ?_
  change wpAny _ _ _ _ _ _ _ (World.drew w)
  refine wpAny_take (i := 0) (oi := { dst := some 33, op := Op.fieldAddr 27 (Operand.tmp 7) 2, type := 0, pos := "law.go:29", after := #[], guard := none }) (v := ?_) rfl (by kernel_rfl) (by kernel_rfl) (by kernel_rfl) (fun _ _ _ h => h) (Or.inl ⟨by rfl, ?_⟩) ?_
  rotate_left
  · intro w'
    go_simp
    try with_reducible rfl
  try simp only [Act.put, List.setIfInBounds_toArray, List.set_cons_zero, List.set_cons_succ]
  refine wpAny_take (i := 2) (oi := { dst := some 35, op := Op.fieldAddr 27 (Operand.tmp 3) 2, type := 0, pos := "law.go:29", after := #[], guard := none }) (v := ?_) rfl (by kernel_rfl) (by kernel_rfl) (by kernel_rfl) (fun _ _ _ h => h) (Or.inl ⟨by rfl, ?_⟩) ?_
  rotate_left
  · intro w'
    go_simp
    try with_reducible rfl
  try simp only [Act.put, List.setIfInBounds_toArray, List.set_cons_zero, List.set_cons_succ]
  refine wpAny_take (i := 4) (oi := { dst := some 37, op := Op.move (Operand.tmp 8), type := 3, pos := "law.go:29", after := #[], guard := none }) (v := ?_) rfl (by kernel_rfl) (by kernel_rfl) (by kernel_rfl) (fun _ _ _ h => h) (Or.inl ⟨by rfl, ?_⟩) ?_
  rotate_left
  · intro w'
    go_simp
    try with_reducible rfl
  try simp only [Act.put, List.setIfInBounds_toArray, List.set_cons_zero, List.set_cons_succ]
  refine wpAny_take (i := 7) (oi := { dst := some 40, op := Op.move (Operand.tmp 1), type := 3, pos := "law.go:29", after := #[], guard := none }) (v := ?_) rfl (by kernel_rfl) (by kernel_rfl) (by kernel_rfl) (fun _ _ _ h => h) (Or.inl ⟨by rfl, ?_⟩) ?_
  rotate_left
  · intro w'
    go_simp
    try with_reducible rfl
  try simp only [Act.put, List.setIfInBounds_toArray, List.set_cons_zero, List.set_cons_succ]
  refine wpAny_take (i := 8) (oi := { dst := some 41, op := Op.binOp BinOp.sub 3 (Operand.tmp 40) (Operand.const (Value.int IntKind.i64 1)) 3, type := 3, pos := "law.go:29", after := #[{ on := 7, ground := Ground.data }], guard := none }) (v := ?_) rfl (by kernel_rfl) (by kernel_rfl) (by kernel_rfl) (fun _ _ _ h => h) (Or.inl ⟨by rfl, ?_⟩) ?_
  rotate_left
  · intro w'
    go_simp
    try with_reducible rfl
  try simp only [Act.put, List.setIfInBounds_toArray, List.set_cons_zero, List.set_cons_succ]
  refine wpAny_take (i := 9) (oi := { dst := some 42, op := Op.move (Operand.tmp 2), type := 45, pos := "law.go:29", after := #[], guard := none }) (v := ?_) rfl (by kernel_rfl) (by kernel_rfl) (by kernel_rfl) (fun _ _ _ h => h) (Or.inl ⟨by rfl, ?_⟩) ?_
  rotate_left
  · intro w'
    go_simp
    try with_reducible rfl
  try simp only [Act.put, List.setIfInBounds_toArray, List.set_cons_zero, List.set_cons_succ]
  refine wpAny_ready (rs := [1, 3]) (by kernel_rfl) (by simp) ?_
  refine (AllReady.cons (o := { dst := some 34, op := Op.load 25 (Operand.tmp 33), type := 25, pos := "law.go:29", after := #[{ on := 0, ground := Ground.data }], guard := none }) rfl (fun K1 hK1 => ?_) (AllReady.cons (o := { dst := some 36, op := Op.load 25 (Operand.tmp 35), type := 25, pos := "law.go:29", after := #[{ on := 2, ground := Ground.data }], guard := none }) rfl (fun K3 hK3 => ?_) AllReady.nil))
  · go_simp
    refine hK1 _ _ ?_
    clear hK1 K1
    try simp only [Act.put, List.setIfInBounds_toArray, List.set_cons_zero, List.set_cons_succ]
    refine wpAny_ready (rs := [3]) (by kernel_rfl) (by simp) ?_
    refine (AllReady.cons (o := { dst := some 36, op := Op.load 25 (Operand.tmp 35), type := 25, pos := "law.go:29", after := #[{ on := 2, ground := Ground.data }], guard := none }) rfl (fun K3 hK3 => ?_) AllReady.nil)
    go_simp
    refine hK3 _ _ ?_
    clear hK3 K3
    try simp only [Act.put, List.setIfInBounds_toArray, List.set_cons_zero, List.set_cons_succ]
    refine wpAny_take (i := 5) (oi := { dst := some 38, op := Op.indexAddr 25 (Operand.tmp 36) (Operand.tmp 37), type := 0, pos := "law.go:29", after := #[{ on := 3, ground := Ground.data }, { on := 4, ground := Ground.data }], guard := none }) (v := ?_) rfl (by kernel_rfl) (by kernel_rfl) (by kernel_rfl) (fun _ _ _ h => h) (Or.inl ⟨by rfl, ?_⟩) ?_
    rotate_left
    · intro w'
      go_simp
      try with_reducible rfl
    try simp only [Act.put, List.setIfInBounds_toArray, List.set_cons_zero, List.set_cons_succ]
    refine wpAny_ready (rs := [6]) (by kernel_rfl) (by simp) ?_
    refine (AllReady.cons (o := { dst := some 39, op := Op.load 27 (Operand.tmp 38), type := 27, pos := "law.go:29", after := #[{ on := 5, ground := Ground.data }], guard := none }) rfl (fun K6 hK6 => ?_) AllReady.nil)
    refine step_val rfl (run_ld27x _ rfl hld) ?_
    refine hK6 _ _ ?_
    clear hK6 K6
    try simp only [Act.put, List.setIfInBounds_toArray, List.set_cons_zero, List.set_cons_succ]
    refine wpAny_ready (rs := [10]) (by kernel_rfl) (by simp) ?_
    refine (AllReady.cons (o := { dst := some 43, op := Op.call { callee := Callee.value (Operand.func 29), args := #[Operand.tmp 39, Operand.tmp 41, Operand.tmp 42], argTypes := #[27, 3, 45] }, type := 27, pos := "law.go:29", after := #[{ on := 6, ground := Ground.data }, { on := 8, ground := Ground.data }, { on := 9, ground := Ground.data }], guard := none }) rfl (fun K10 hK10 => ?_) AllReady.nil)
    go_simp
    refine h.out.mono ?_
    rintro e w4 ⟨k4, s4, l4, mn4, mx4, v2, w5, w6, rfl, c7b, c7c, happ, hst, h⟩
    replace h := hide h
    replace happ := hide happ
    replace hst := hide hst
    refine hK10 _ _ ?_
    clear hK10 K10
    try simp only [Act.put, List.setIfInBounds_toArray, List.set_cons_zero, List.set_cons_succ]
    refine wpAny_ready (rs := [11]) (by kernel_rfl) (by simp) ?_
    refine (AllReady.cons (o := { dst := some 44, op := Op.buildSlice 25 1 #[(0, Operand.tmp 43)], type := 25, pos := "law.go:29", after := #[{ on := 10, ground := Ground.data }], guard := none }) rfl (fun K11 hK11 => ?_) AllReady.nil)
    refine step_val rfl (v := .slice (some ⟨w4.heap.size, 0, none⟩) 1 1) (w' := w4.alloc (.cells (reA k4 s4 l4 mn4 mx4) 27)) (run_bs25x _ _ _ _ _ _ _ _ _ rfl _) ?_
    refine hK11 _ _ ?_
    clear hK11 K11
    try simp only [Act.put, List.setIfInBounds_toArray, List.set_cons_zero, List.set_cons_succ]
    refine wpAny_ready (rs := [12]) (by kernel_rfl) (by simp) ?_
    refine (AllReady.cons (o := { dst := some 45, op := Op.call { callee := Callee.builtin Builtin.append, args := #[Operand.tmp 34, Operand.tmp 44], argTypes := #[25, 25] }, type := 25, pos := "law.go:29", after := #[{ on := 1, ground := Ground.data }, { on := 11, ground := Ground.data }, { on := 10, ground := Ground.chain }], guard := none }) rfl (fun K12 hK12 => ?_) AllReady.nil)
    refine step_val rfl (v := v2) (w' := w5) (run_app25x _ _ _ _ rfl rfl happ.out) ?_
    refine hK12 _ _ ?_
    clear hK12 K12
    try simp only [Act.put, List.setIfInBounds_toArray, List.set_cons_zero, List.set_cons_succ]
    refine wpAny_take (i := 13) (oi := { dst := some 46, op := Op.fieldAddr 27 (Operand.tmp 7) 2, type := 0, pos := "law.go:29", after := #[{ on := 0, ground := Ground.phase }, { on := 1, ground := Ground.phase }, { on := 2, ground := Ground.phase }, { on := 3, ground := Ground.phase }, { on := 4, ground := Ground.phase }, { on := 5, ground := Ground.phase }, { on := 6, ground := Ground.phase }, { on := 7, ground := Ground.phase }, { on := 8, ground := Ground.phase }, { on := 9, ground := Ground.phase }, { on := 10, ground := Ground.phase }, { on := 11, ground := Ground.phase }, { on := 12, ground := Ground.phase }], guard := none }) (v := ?_) rfl (by kernel_rfl) (by kernel_rfl) (by kernel_rfl) (fun _ _ _ h => h) (Or.inl ⟨by rfl, ?_⟩) ?_
    rotate_left
    · intro w'
      go_simp
      try with_reducible rfl
    try simp only [Act.put, List.setIfInBounds_toArray, List.set_cons_zero, List.set_cons_succ]
    refine wpAny_ready (rs := [14]) (by kernel_rfl) (by simp) ?_
    refine (AllReady.cons (o := { dst := none, op := Op.store 25 (Operand.tmp 46) (Operand.tmp 45), type := 0, pos := "law.go:29", after := #[{ on := 13, ground := Ground.data }, { on := 12, ground := Ground.data }, { on := 12, ground := Ground.chain }, { on := 0, ground := Ground.phase }, { on := 1, ground := Ground.phase }, { on := 2, ground := Ground.phase }, { on := 3, ground := Ground.phase }, { on := 4, ground := Ground.phase }, { on := 5, ground := Ground.phase }, { on := 6, ground := Ground.phase }, { on := 7, ground := Ground.phase }, { on := 8, ground := Ground.phase }, { on := 9, ground := Ground.phase }, { on := 10, ground := Ground.phase }, { on := 11, ground := Ground.phase }, { on := 12, ground := Ground.phase }], guard := none }) rfl (fun K14 hK14 => ?_) AllReady.nil)
    refine step_skip rfl rfl (w' := w6) (run_st25x _ rfl rfl hst.out) ?_
    refine hK14 _ _ ?_
    clear hK14 K14
    try simp only [Act.put, List.setIfInBounds_toArray, List.set_cons_zero, List.set_cons_succ]
    refine wpAny_done (by kernel_rfl) ?_ _
    refine NoPanic.normal ?_
    exact h.out
  · go_simp
    refine hK3 _ _ ?_
    clear hK3 K3
    try simp only [Act.put, List.setIfInBounds_toArray, List.set_cons_zero, List.set_cons_succ]
    refine wpAny_take (i := 5) (oi := { dst := some 38, op := Op.indexAddr 25 (Operand.tmp 36) (Operand.tmp 37), type := 0, pos := "law.go:29", after := #[{ on := 3, ground := Ground.data }, { on := 4, ground := Ground.data }], guard := none }) (v := ?_) rfl (by kernel_rfl) (by kernel_rfl) (by kernel_rfl) (fun _ _ _ h => h) (Or.inl ⟨by rfl, ?_⟩) ?_
    rotate_left
    · intro w'
      go_simp
      try with_reducible rfl
    try simp only [Act.put, List.setIfInBounds_toArray, List.set_cons_zero, List.set_cons_succ]
    refine wpAny_ready (rs := [1, 6]) (by kernel_rfl) (by simp) ?_
    refine (AllReady.cons (o := { dst := some 34, op := Op.load 25 (Operand.tmp 33), type := 25, pos := "law.go:29", after := #[{ on := 0, ground := Ground.data }], guard := none }) rfl (fun K1 hK1 => ?_) (AllReady.cons (o := { dst := some 39, op := Op.load 27 (Operand.tmp 38), type := 27, pos := "law.go:29", after := #[{ on := 5, ground := Ground.data }], guard := none }) rfl (fun K6 hK6 => ?_) AllReady.nil))
    · go_simp
      refine hK1 _ _ ?_
      clear hK1 K1
      try simp only [Act.put, List.setIfInBounds_toArray, List.set_cons_zero, List.set_cons_succ]
      refine wpAny_ready (rs := [6]) (by kernel_rfl) (by simp) ?_
      refine (AllReady.cons (o := { dst := some 39, op := Op.load 27 (Operand.tmp 38), type := 27, pos := "law.go:29", after := #[{ on := 5, ground := Ground.data }], guard := none }) rfl (fun K6 hK6 => ?_) AllReady.nil)
      refine step_val rfl (run_ld27x _ rfl hld) ?_
      refine hK6 _ _ ?_
      clear hK6 K6
      try simp only [Act.put, List.setIfInBounds_toArray, List.set_cons_zero, List.set_cons_succ]
      refine wpAny_ready (rs := [10]) (by kernel_rfl) (by simp) ?_
      refine (AllReady.cons (o := { dst := some 43, op := Op.call { callee := Callee.value (Operand.func 29), args := #[Operand.tmp 39, Operand.tmp 41, Operand.tmp 42], argTypes := #[27, 3, 45] }, type := 27, pos := "law.go:29", after := #[{ on := 6, ground := Ground.data }, { on := 8, ground := Ground.data }, { on := 9, ground := Ground.data }], guard := none }) rfl (fun K10 hK10 => ?_) AllReady.nil)
      go_simp
      refine h.out.mono ?_
      rintro e w4 ⟨k4, s4, l4, mn4, mx4, v2, w5, w6, rfl, c7b, c7c, happ, hst, h⟩
      replace h := hide h
      replace happ := hide happ
      replace hst := hide hst
      refine hK10 _ _ ?_
      clear hK10 K10
      try simp only [Act.put, List.setIfInBounds_toArray, List.set_cons_zero, List.set_cons_succ]
      refine wpAny_ready (rs := [11]) (by kernel_rfl) (by simp) ?_
      refine (AllReady.cons (o := { dst := some 44, op := Op.buildSlice 25 1 #[(0, Operand.tmp 43)], type := 25, pos := "law.go:29", after := #[{ on := 10, ground := Ground.data }], guard := none }) rfl (fun K11 hK11 => ?_) AllReady.nil)
      refine step_val rfl (v := .slice (some ⟨w4.heap.size, 0, none⟩) 1 1) (w' := w4.alloc (.cells (reA k4 s4 l4 mn4 mx4) 27)) (run_bs25x _ _ _ _ _ _ _ _ _ rfl _) ?_
      refine hK11 _ _ ?_
      clear hK11 K11
      try simp only [Act.put, List.setIfInBounds_toArray, List.set_cons_zero, List.set_cons_succ]
      refine wpAny_ready (rs := [12]) (by kernel_rfl) (by simp) ?_
      refine (AllReady.cons (o := { dst := some 45, op := Op.call { callee := Callee.builtin Builtin.append, args := #[Operand.tmp 34, Operand.tmp 44], argTypes := #[25, 25] }, type := 25, pos := "law.go:29", after := #[{ on := 1, ground := Ground.data }, { on := 11, ground := Ground.data }, { on := 10, ground := Ground.chain }], guard := none }) rfl (fun K12 hK12 => ?_) AllReady.nil)
      refine step_val rfl (v := v2) (w' := w5) (run_app25x _ _ _ _ rfl rfl happ.out) ?_
      refine hK12 _ _ ?_
      clear hK12 K12
      try simp only [Act.put, List.setIfInBounds_toArray, List.set_cons_zero, List.set_cons_succ]
      refine wpAny_take (i := 13) (oi := { dst := some 46, op := Op.fieldAddr 27 (Operand.tmp 7) 2, type := 0, pos := "law.go:29", after := #[{ on := 0, ground := Ground.phase }, { on := 1, ground := Ground.phase }, { on := 2, ground := Ground.phase }, { on := 3, ground := Ground.phase }, { on := 4, ground := Ground.phase }, { on := 5, ground := Ground.phase }, { on := 6, ground := Ground.phase }, { on := 7, ground := Ground.phase }, { on := 8, ground := Ground.phase }, { on := 9, ground := Ground.phase }, { on := 10, ground := Ground.phase }, { on := 11, ground := Ground.phase }, { on := 12, ground := Ground.phase }], guard := none }) (v := ?_) rfl (by kernel_rfl) (by kernel_rfl) (by kernel_rfl) (fun _ _ _ h => h) (Or.inl ⟨by rfl, ?_⟩) ?_
      rotate_left
      · intro w'
        go_simp
        try with_reducible rfl
      try simp only [Act.put, List.setIfInBounds_toArray, List.set_cons_zero, List.set_cons_succ]
      refine wpAny_ready (rs := [14]) (by kernel_rfl) (by simp) ?_
      refine (AllReady.cons (o := { dst := none, op := Op.store 25 (Operand.tmp 46) (Operand.tmp 45), type := 0, pos := "law.go:29", after := #[{ on := 13, ground := Ground.data }, { on := 12, ground := Ground.data }, { on := 12, ground := Ground.chain }, { on := 0, ground := Ground.phase }, { on := 1, ground := Ground.phase }, { on := 2, ground := Ground.phase }, { on := 3, ground := Ground.phase }, { on := 4, ground := Ground.phase }, { on := 5, ground := Ground.phase }, { on := 6, ground := Ground.phase }, { on := 7, ground := Ground.phase }, { on := 8, ground := Ground.phase }, { on := 9, ground := Ground.phase }, { on := 10, ground := Ground.phase }, { on := 11, ground := Ground.phase }, { on := 12, ground := Ground.phase }], guard := none }) rfl (fun K14 hK14 => ?_) AllReady.nil)
      refine step_skip rfl rfl (w' := w6) (run_st25x _ rfl rfl hst.out) ?_
      refine hK14 _ _ ?_
      clear hK14 K14
      try simp only [Act.put, List.setIfInBounds_toArray, List.set_cons_zero, List.set_cons_succ]
      refine wpAny_done (by kernel_rfl) ?_ _
      refine NoPanic.normal ?_
      exact h.out
    · refine step_val rfl (run_ld27x _ rfl hld) ?_
      refine hK6 _ _ ?_
      clear hK6 K6
      try simp only [Act.put, List.setIfInBounds_toArray, List.set_cons_zero, List.set_cons_succ]
      refine wpAny_ready (rs := [1, 10]) (by kernel_rfl) (by simp) ?_
      refine (AllReady.cons (o := { dst := some 34, op := Op.load 25 (Operand.tmp 33), type := 25, pos := "law.go:29", after := #[{ on := 0, ground := Ground.data }], guard := none }) rfl (fun K1 hK1 => ?_) (AllReady.cons (o := { dst := some 43, op := Op.call { callee := Callee.value (Operand.func 29), args := #[Operand.tmp 39, Operand.tmp 41, Operand.tmp 42], argTypes := #[27, 3, 45] }, type := 27, pos := "law.go:29", after := #[{ on := 6, ground := Ground.data }, { on := 8, ground := Ground.data }, { on := 9, ground := Ground.data }], guard := none }) rfl (fun K10 hK10 => ?_) AllReady.nil))
      · go_simp
        refine hK1 _ _ ?_
        clear hK1 K1
        try simp only [Act.put, List.setIfInBounds_toArray, List.set_cons_zero, List.set_cons_succ]
        refine wpAny_ready (rs := [10]) (by kernel_rfl) (by simp) ?_
        refine (AllReady.cons (o := { dst := some 43, op := Op.call { callee := Callee.value (Operand.func 29), args := #[Operand.tmp 39, Operand.tmp 41, Operand.tmp 42], argTypes := #[27, 3, 45] }, type := 27, pos := "law.go:29", after := #[{ on := 6, ground := Ground.data }, { on := 8, ground := Ground.data }, { on := 9, ground := Ground.data }], guard := none }) rfl (fun K10 hK10 => ?_) AllReady.nil)
        go_simp
        refine h.out.mono ?_
        rintro e w4 ⟨k4, s4, l4, mn4, mx4, v2, w5, w6, rfl, c7b, c7c, happ, hst, h⟩
        replace h := hide h
        replace happ := hide happ
        replace hst := hide hst
        refine hK10 _ _ ?_
        clear hK10 K10
        try simp only [Act.put, List.setIfInBounds_toArray, List.set_cons_zero, List.set_cons_succ]
        refine wpAny_ready (rs := [11]) (by kernel_rfl) (by simp) ?_
        refine (AllReady.cons (o := { dst := some 44, op := Op.buildSlice 25 1 #[(0, Operand.tmp 43)], type := 25, pos := "law.go:29", after := #[{ on := 10, ground := Ground.data }], guard := none }) rfl (fun K11 hK11 => ?_) AllReady.nil)
        refine step_val rfl (v := .slice (some ⟨w4.heap.size, 0, none⟩) 1 1) (w' := w4.alloc (.cells (reA k4 s4 l4 mn4 mx4) 27)) (run_bs25x _ _ _ _ _ _ _ _ _ rfl _) ?_
        refine hK11 _ _ ?_
        clear hK11 K11
        try simp only [Act.put, List.setIfInBounds_toArray, List.set_cons_zero, List.set_cons_succ]
        refine wpAny_ready (rs := [12]) (by kernel_rfl) (by simp) ?_
        refine (AllReady.cons (o := { dst := some 45, op := Op.call { callee := Callee.builtin Builtin.append, args := #[Operand.tmp 34, Operand.tmp 44], argTypes := #[25, 25] }, type := 25, pos := "law.go:29", after := #[{ on := 1, ground := Ground.data }, { on := 11, ground := Ground.data }, { on := 10, ground := Ground.chain }], guard := none }) rfl (fun K12 hK12 => ?_) AllReady.nil)
        refine step_val rfl (v := v2) (w' := w5) (run_app25x _ _ _ _ rfl rfl happ.out) ?_
        refine hK12 _ _ ?_
        clear hK12 K12
        try simp only [Act.put, List.setIfInBounds_toArray, List.set_cons_zero, List.set_cons_succ]
        refine wpAny_take (i := 13) (oi := { dst := some 46, op := Op.fieldAddr 27 (Operand.tmp 7) 2, type := 0, pos := "law.go:29", after := #[{ on := 0, ground := Ground.phase }, { on := 1, ground := Ground.phase }, { on := 2, ground := Ground.phase }, { on := 3, ground := Ground.phase }, { on := 4, ground := Ground.phase }, { on := 5, ground := Ground.phase }, { on := 6, ground := Ground.phase }, { on := 7, ground := Ground.phase }, { on := 8, ground := Ground.phase }, { on := 9, ground := Ground.phase }, { on := 10, ground := Ground.phase }, { on := 11, ground := Ground.phase }, { on := 12, ground := Ground.phase }], guard := none }) (v := ?_) rfl (by kernel_rfl) (by kernel_rfl) (by kernel_rfl) (fun _ _ _ h => h) (Or.inl ⟨by rfl, ?_⟩) ?_
        rotate_left
        · intro w'
          go_simp
          try with_reducible rfl
        try simp only [Act.put, List.setIfInBounds_toArray, List.set_cons_zero, List.set_cons_succ]
        refine wpAny_ready (rs := [14]) (by kernel_rfl) (by simp) ?_
        refine (AllReady.cons (o := { dst := none, op := Op.store 25 (Operand.tmp 46) (Operand.tmp 45), type := 0, pos := "law.go:29", after := #[{ on := 13, ground := Ground.data }, { on := 12, ground := Ground.data }, { on := 12, ground := Ground.chain }, { on := 0, ground := Ground.phase }, { on := 1, ground := Ground.phase }, { on := 2, ground := Ground.phase }, { on := 3, ground := Ground.phase }, { on := 4, ground := Ground.phase }, { on := 5, ground := Ground.phase }, { on := 6, ground := Ground.phase }, { on := 7, ground := Ground.phase }, { on := 8, ground := Ground.phase }, { on := 9, ground := Ground.phase }, { on := 10, ground := Ground.phase }, { on := 11, ground := Ground.phase }, { on := 12, ground := Ground.phase }], guard := none }) rfl (fun K14 hK14 => ?_) AllReady.nil)
        refine step_skip rfl rfl (w' := w6) (run_st25x _ rfl rfl hst.out) ?_
        refine hK14 _ _ ?_
        clear hK14 K14
        try simp only [Act.put, List.setIfInBounds_toArray, List.set_cons_zero, List.set_cons_succ]
        refine wpAny_done (by kernel_rfl) ?_ _
        refine NoPanic.normal ?_
        exact h.out
      · go_simp
        refine h.out.mono ?_
        rintro e w4 ⟨k4, s4, l4, mn4, mx4, v2, w5, w6, rfl, c7b, c7c, happ, hst, h⟩
        replace h := hide h
        replace happ := hide happ
        replace hst := hide hst
        refine hK10 _ _ ?_
        clear hK10 K10
        try simp only [Act.put, List.setIfInBounds_toArray, List.set_cons_zero, List.set_cons_succ]
        refine wpAny_ready (rs := [1, 11]) (by kernel_rfl) (by simp) ?_
        refine (AllReady.cons (o := { dst := some 34, op := Op.load 25 (Operand.tmp 33), type := 25, pos := "law.go:29", after := #[{ on := 0, ground := Ground.data }], guard := none }) rfl (fun K1 hK1 => ?_) (AllReady.cons (o := { dst := some 44, op := Op.buildSlice 25 1 #[(0, Operand.tmp 43)], type := 25, pos := "law.go:29", after := #[{ on := 10, ground := Ground.data }], guard := none }) rfl (fun K11 hK11 => ?_) AllReady.nil))
        · go_simp
          refine hK1 _ _ ?_
          clear hK1 K1
          try simp only [Act.put, List.setIfInBounds_toArray, List.set_cons_zero, List.set_cons_succ]
          refine wpAny_ready (rs := [11]) (by kernel_rfl) (by simp) ?_
          refine (AllReady.cons (o := { dst := some 44, op := Op.buildSlice 25 1 #[(0, Operand.tmp 43)], type := 25, pos := "law.go:29", after := #[{ on := 10, ground := Ground.data }], guard := none }) rfl (fun K11 hK11 => ?_) AllReady.nil)
          refine step_val rfl (v := .slice (some ⟨w4.heap.size, 0, none⟩) 1 1) (w' := w4.alloc (.cells (reA k4 s4 l4 mn4 mx4) 27)) (run_bs25x _ _ _ _ _ _ _ _ _ rfl _) ?_
          refine hK11 _ _ ?_
          clear hK11 K11
          try simp only [Act.put, List.setIfInBounds_toArray, List.set_cons_zero, List.set_cons_succ]
          refine wpAny_ready (rs := [12]) (by kernel_rfl) (by simp) ?_
          refine (AllReady.cons (o := { dst := some 45, op := Op.call { callee := Callee.builtin Builtin.append, args := #[Operand.tmp 34, Operand.tmp 44], argTypes := #[25, 25] }, type := 25, pos := "law.go:29", after := #[{ on := 1, ground := Ground.data }, { on := 11, ground := Ground.data }, { on := 10, ground := Ground.chain }], guard := none }) rfl (fun K12 hK12 => ?_) AllReady.nil)
          refine step_val rfl (v := v2) (w' := w5) (run_app25x _ _ _ _ rfl rfl happ.out) ?_
          refine hK12 _ _ ?_
          clear hK12 K12
          try simp only [Act.put, List.setIfInBounds_toArray, List.set_cons_zero, List.set_cons_succ]
          refine wpAny_take (i := 13) (oi := { dst := some 46, op := Op.fieldAddr 27 (Operand.tmp 7) 2, type := 0, pos := "law.go:29", after := #[{ on := 0, ground := Ground.phase }, { on := 1, ground := Ground.phase }, { on := 2, ground := Ground.phase }, { on := 3, ground := Ground.phase }, { on := 4, ground := Ground.phase }, { on := 5, ground := Ground.phase }, { on := 6, ground := Ground.phase }, { on := 7, ground := Ground.phase }, { on := 8, ground := Ground.phase }, { on := 9, ground := Ground.phase }, { on := 10, ground := Ground.phase }, { on := 11, ground := Ground.phase }, { on := 12, ground := Ground.phase }], guard := none }) (v := ?_) rfl (by kernel_rfl) (by kernel_rfl) (by kernel_rfl) (fun _ _ _ h => h) (Or.inl ⟨by rfl, ?_⟩) ?_
          rotate_left
          · intro w'
            go_simp
            try with_reducible rfl
          try simp only [Act.put, List.setIfInBounds_toArray, List.set_cons_zero, List.set_cons_succ]
          refine wpAny_ready (rs := [14]) (by kernel_rfl) (by simp) ?_
          refine (AllReady.cons (o := { dst := none, op := Op.store 25 (Operand.tmp 46) (Operand.tmp 45), type := 0, pos := "law.go:29", after := #[{ on := 13, ground := Ground.data }, { on := 12, ground := Ground.data }, { on := 12, ground := Ground.chain }, { on := 0, ground := Ground.phase }, { on := 1, ground := Ground.phase }, { on := 2, ground := Ground.phase }, { on := 3, ground := Ground.phase }, { on := 4, ground := Ground.phase }, { on := 5, ground := Ground.phase }, { on := 6, ground := Ground.phase }, { on := 7, ground := Ground.phase }, { on := 8, ground := Ground.phase }, { on := 9, ground := Ground.phase }, { on := 10, ground := Ground.phase }, { on := 11, ground := Ground.phase }, { on := 12, ground := Ground.phase }], guard := none }) rfl (fun K14 hK14 => ?_) AllReady.nil)
          refine step_skip rfl rfl (w' := w6) (run_st25x _ rfl rfl hst.out) ?_
          refine hK14 _ _ ?_
          clear hK14 K14
          try simp only [Act.put, List.setIfInBounds_toArray, List.set_cons_zero, List.set_cons_succ]
          refine wpAny_done (by kernel_rfl) ?_ _
          refine NoPanic.normal ?_
          exact h.out
        · refine step_val rfl (v := .slice (some ⟨w4.heap.size, 0, none⟩) 1 1) (w' := w4.alloc (.cells (reA k4 s4 l4 mn4 mx4) 27)) (run_bs25x _ _ _ _ _ _ _ _ _ rfl _) ?_
          refine hK11 _ _ ?_
          clear hK11 K11
          try simp only [Act.put, List.setIfInBounds_toArray, List.set_cons_zero, List.set_cons_succ]
          refine wpAny_ready (rs := [1]) (by kernel_rfl) (by simp) ?_
          refine (AllReady.cons (o := { dst := some 34, op := Op.load 25 (Operand.tmp 33), type := 25, pos := "law.go:29", after := #[{ on := 0, ground := Ground.data }], guard := none }) rfl (fun K1 hK1 => ?_) AllReady.nil)
          go_simp
          refine hK1 _ _ ?_
          clear hK1 K1
          try simp only [Act.put, List.setIfInBounds_toArray, List.set_cons_zero, List.set_cons_succ]
          refine wpAny_ready (rs := [12]) (by kernel_rfl) (by simp) ?_
          refine (AllReady.cons (o := { dst := some 45, op := Op.call { callee := Callee.builtin Builtin.append, args := #[Operand.tmp 34, Operand.tmp 44], argTypes := #[25, 25] }, type := 25, pos := "law.go:29", after := #[{ on := 1, ground := Ground.data }, { on := 11, ground := Ground.data }, { on := 10, ground := Ground.chain }], guard := none }) rfl (fun K12 hK12 => ?_) AllReady.nil)
          refine step_val rfl (v := v2) (w' := w5) (run_app25x _ _ _ _ rfl rfl happ.out) ?_
          refine hK12 _ _ ?_
          clear hK12 K12
          try simp only [Act.put, List.setIfInBounds_toArray, List.set_cons_zero, List.set_cons_succ]
          refine wpAny_take (i := 13) (oi := { dst := some 46, op := Op.fieldAddr 27 (Operand.tmp 7) 2, type := 0, pos := "law.go:29", after := #[{ on := 0, ground := Ground.phase }, { on := 1, ground := Ground.phase }, { on := 2, ground := Ground.phase }, { on := 3, ground := Ground.phase }, { on := 4, ground := Ground.phase }, { on := 5, ground := Ground.phase }, { on := 6, ground := Ground.phase }, { on := 7, ground := Ground.phase }, { on := 8, ground := Ground.phase }, { on := 9, ground := Ground.phase }, { on := 10, ground := Ground.phase }, { on := 11, ground := Ground.phase }, { on := 12, ground := Ground.phase }], guard := none }) (v := ?_) rfl (by kernel_rfl) (by kernel_rfl) (by kernel_rfl) (fun _ _ _ h => h) (Or.inl ⟨by rfl, ?_⟩) ?_
          rotate_left
          · intro w'
            go_simp
            try with_reducible rfl
          try simp only [Act.put, List.setIfInBounds_toArray, List.set_cons_zero, List.set_cons_succ]
          refine wpAny_ready (rs := [14]) (by kernel_rfl) (by simp) ?_
          refine (AllReady.cons (o := { dst := none, op := Op.store 25 (Operand.tmp 46) (Operand.tmp 45), type := 0, pos := "law.go:29", after := #[{ on := 13, ground := Ground.data }, { on := 12, ground := Ground.data }, { on := 12, ground := Ground.chain }, { on := 0, ground := Ground.phase }, { on := 1, ground := Ground.phase }, { on := 2, ground := Ground.phase }, { on := 3, ground := Ground.phase }, { on := 4, ground := Ground.phase }, { on := 5, ground := Ground.phase }, { on := 6, ground := Ground.phase }, { on := 7, ground := Ground.phase }, { on := 8, ground := Ground.phase }, { on := 9, ground := Ground.phase }, { on := 10, ground := Ground.phase }, { on := 11, ground := Ground.phase }, { on := 12, ground := Ground.phase }], guard := none }) rfl (fun K14 hK14 => ?_) AllReady.nil)
          refine step_skip rfl rfl (w' := w6) (run_st25x _ rfl rfl hst.out) ?_
          refine hK14 _ _ ?_
          clear hK14 K14
          try simp only [Act.put, List.setIfInBounds_toArray, List.set_cons_zero, List.set_cons_succ]
          refine wpAny_done (by kernel_rfl) ?_ _
          refine NoPanic.normal ?_
          exact h.out
end Go.Proofs.YthgdfgkjaepchaaDoor
