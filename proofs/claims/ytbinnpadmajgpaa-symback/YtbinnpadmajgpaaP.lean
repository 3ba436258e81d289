/-
  few's step (a region that draws its order).
-/
import Derived.Test.YtbinnpadmajgpaaJ
namespace Go.Proofs.Ytbinnpadmajgpaa
open Go.RowKit Go.Shelf
set_option linter.unusedVariables false
set_option linter.unusedSimpArgs false

section
variable {w w' : World} {ops : Array Oper} {o : Oper} {a : Act} {Q : Exit → Act → World → Prop} {K : Act → World → Prop} {E : Prop}
theorem step_val2 {v : Value} (hgd : Region.wanted o (yielded ops a.tmps) = true) (hr : (execOp a.eval o).run Try.prog w = .ok (.value v) w') (h : K (a.put o.dst v) w') : if Region.wanted o (yielded ops a.tmps) = true then Oper.wp Try.prog o a w K Q else E := by
  rw [if_pos hgd]
  unfold Oper.wp
  rw [hr]
  exact h
end
section
variable {w w' : World} {dst : Option Nat} {x y : Operand} {ty : TypeId} {pos : String} {after : Array Edge} {gd : Option (Nat × Bool)}
theorem run_minx (ev : Operand → Value) {n q m : Int} (hx : ev x = .int .i64 n) (hy : ev y = .int .i64 q) (hm : (if q < n then q else n) = m) : (execOp ev ⟨dst, .call { callee := .builtin .min, args := #[x, y], argTypes := #[3, 3] }, ty, pos, after, none⟩).run Try.prog w = .ok (.value (.int .i64 m)) w := by
  simp [execOp, resolve, invoke, builtin, hx, hy, run_min_int2, Result.andThen, hm]
theorem run_slS (ev : Operand → Value) {u v r : Value} (hx : ev x = u) (hy : ev y = v) (hr : (Instr.sliceAt 9 u none (some v) none).run Try.prog w = .ok r w) : (execOp ev ⟨dst, .slice 9 x none (some y) none, ty, pos, after, gd⟩).run Try.prog w = .ok (.value r) w := by
  unfold execOp
  simp only [hx, hy, Option.map_some, Option.map_none, Sem.run_bind, hr, Result.andThen_ok, Sem.run_pure]
theorem bs22 (ev : Operand → Value) {s : ByteArray} (hx : ev x = .string s) (w : World) : (execOp ev ⟨dst, .buildSlice 22 1 #[(0, x)], ty, pos, after, none⟩).run Try.prog w = .ok (.value (.slice (some ⟨w.heap.size, 0, none⟩) 1 1)) (w.alloc (.cells #[.string s] 9)) := by
  unfold execOp
  simp only [List.map_toArray, List.map_cons, List.map_nil, hx]
  kernel_rfl
theorem app22 {ev : Operand → Value} {v v1 v6 : Value} {w6 : World} (hx : ev x = v) (hy : ev y = v1) (hr : (Builtin.append_ #[22, 22] 22 #[v, v1]).run Try.prog w = .ok v6 w6) : (execOp ev ⟨dst, .call { callee := .builtin .append, args := #[x, y], argTypes := #[22, 22] }, 22, pos, after, none⟩).run Try.prog w = .ok (.value v6) w6 := by
  simp [execOp, resolve, invoke, builtin, hx, hy, hr, Result.andThen]
end
set_option maxHeartbeats 4000000 in
set_option maxRecDepth 100000 in
theorem reg8_5 (w : World) (v v6 : Value) (w6 : World) (b off i n c m q : Nat) (s : Tx) (S2 : ByteArray) (i1 : (i : Int) < (n : Int)) (hm : (⟨s.toArray⟩ : ByteArray).size = m) (c0 : w.drew.cell? ⟨b, off + i, none⟩ = some (encStr s)) (e1 : (if (257 : Int) < (m : Int) then (257 : Int) else (m : Int)) = (q : Int)) (hsl : ∀ W, (Instr.sliceAt 9 (encStr s) none (some (.int .i64 (q : Int))) none).run Try.prog W = .ok (.string S2) W) (hr : (Builtin.append_ #[22, 22] 22 #[v, .slice (some ⟨w.heap.size, 0, none⟩) 1 1]).run Try.prog (w.drew.alloc (.cells #[.string S2] 9)) = .ok v6 w6)
    (u1 u2 u5 u6 u7 u8 u9 u10 u11 u12 u13 u14 u15 u16 u17 u18 u19 u20 u21 u22 u23 u24 u25 u26 u27 u28 u29 u30 : Value) (Q : Exit → Act → World → Prop)
    (h : Q .normal { tmps := (List.toArray ((.slice (some ⟨b, off, none⟩) n c :: u1 :: u2 :: v6 :: .int .i64 (i : Int) :: u5 :: u6 :: u7 :: u8 :: u9 :: u10 :: u11 :: u12 :: u13 :: u14 :: u15 :: v :: .slice (some ⟨b, off, none⟩) n c :: .int .i64 (i : Int) :: .pointer (some ⟨b, off + i, none⟩) :: encStr s :: .slice (some ⟨b, off, none⟩) n c :: .int .i64 (i : Int) :: .pointer (some ⟨b, off + i, none⟩) :: encStr s :: .int .i64 (m : Int) :: .int .i64 (q : Int) :: .string S2 :: .slice (some ⟨w.heap.size, 0, none⟩) 1 1 :: v6 :: u30 :: []) : List Value)), defers := [] } w6) :
    (Code.region 5 #[{ dst := some 16, op := Op.move (Operand.tmp 3), type := 22, pos := "law.go:23", after := #[], guard := none }, { dst := some 17, op := Op.move (Operand.tmp 0), type := 22, pos := "law.go:23", after := #[], guard := none }, { dst := some 18, op := Op.move (Operand.tmp 4), type := 3, pos := "law.go:23", after := #[], guard := none }, { dst := some 19, op := Op.indexAddr 22 (Operand.tmp 17) (Operand.tmp 18), type := 0, pos := "law.go:23", after := #[{ on := 1, ground := Ground.data }, { on := 2, ground := Ground.data }], guard := none }, { dst := some 20, op := Op.load 9 (Operand.tmp 19), type := 9, pos := "law.go:23", after := #[{ on := 3, ground := Ground.data }], guard := none }, { dst := some 21, op := Op.move (Operand.tmp 0), type := 22, pos := "law.go:23", after := #[], guard := none }, { dst := some 22, op := Op.move (Operand.tmp 4), type := 3, pos := "law.go:23", after := #[], guard := none }, { dst := some 23, op := Op.indexAddr 22 (Operand.tmp 21) (Operand.tmp 22), type := 0, pos := "law.go:23", after := #[{ on := 5, ground := Ground.data }, { on := 6, ground := Ground.data }], guard := none }, { dst := some 24, op := Op.load 9 (Operand.tmp 23), type := 9, pos := "law.go:23", after := #[{ on := 7, ground := Ground.data }], guard := none }, { dst := some 25, op := Op.call { callee := Callee.builtin Builtin.len, args := #[Operand.tmp 24], argTypes := #[9] }, type := 3, pos := "law.go:23", after := #[{ on := 8, ground := Ground.data }], guard := none }, { dst := some 26, op := Op.call { callee := Callee.builtin Builtin.min, args := #[Operand.tmp 25, Operand.const (Value.int IntKind.i64 257)], argTypes := #[3, 3] }, type := 3, pos := "law.go:23", after := #[{ on := 9, ground := Ground.data }], guard := none }, { dst := some 27, op := Op.slice 9 (Operand.tmp 20) none (some (Operand.tmp 26)) none, type := 9, pos := "law.go:23", after := #[{ on := 4, ground := Ground.data }, { on := 10, ground := Ground.data }], guard := none }, { dst := some 28, op := Op.buildSlice 22 1 #[(0, Operand.tmp 27)], type := 22, pos := "law.go:23", after := #[{ on := 11, ground := Ground.data }], guard := none }, { dst := some 29, op := Op.call { callee := Callee.builtin Builtin.append, args := #[Operand.tmp 16, Operand.tmp 28], argTypes := #[22, 22] }, type := 22, pos := "law.go:23", after := #[{ on := 0, ground := Ground.data }, { on := 12, ground := Ground.data }], guard := none }, { dst := some 3, op := Op.assign (Operand.tmp 29), type := 22, pos := "law.go:23", after := #[{ on := 13, ground := Ground.data }, { on := 13, ground := Ground.chain }, { on := 0, ground := Ground.phase }, { on := 1, ground := Ground.phase }, { on := 2, ground := Ground.phase }, { on := 3, ground := Ground.phase }, { on := 4, ground := Ground.phase }, { on := 5, ground := Ground.phase }, { on := 6, ground := Ground.phase }, { on := 7, ground := Ground.phase }, { on := 8, ground := Ground.phase }, { on := 9, ground := Ground.phase }, { on := 10, ground := Ground.phase }, { on := 11, ground := Ground.phase }, { on := 12, ground := Ground.phase }, { on := 13, ground := Ground.phase }], guard := none }] true).wp Try.prog Q { tmps := (List.toArray ((.slice (some ⟨b, off, none⟩) n c :: u1 :: u2 :: v :: .int .i64 (i : Int) :: u5 :: u6 :: u7 :: u8 :: u9 :: u10 :: u11 :: u12 :: u13 :: u14 :: u15 :: u16 :: u17 :: u18 :: u19 :: u20 :: u21 :: u22 :: u23 :: u24 :: u25 :: u26 :: u27 :: u28 :: u29 :: u30 :: []) : List Value)), defers := [] } w := by
  have i0 : (0 : Int) ≤ (i : Int) := by omega
  replace e1 := hide e1
  replace hsl := hide hsl
  replace hr := hide hr
  replace h := hide h
  refine wp_region_noPanic ?_
  refine wp_region_any (by kernel_rfl) ?_
  change wpAny _ _ _ _ _ _ _ (World.drew w)
  refine wpAny_take (i := 0) (oi := { dst := some 16, op := Op.move (Operand.tmp 3), type := 22, pos := "law.go:23", after := #[], guard := none }) (v := ?_) rfl (by kernel_rfl) (by kernel_rfl) (by kernel_rfl) (fun _ _ _ h => h) (Or.inl ⟨by rfl, ?_⟩) ?_
  rotate_left
  · intro w'
    go_simp
    try with_reducible rfl
  try simp only [Act.put, List.setIfInBounds_toArray, List.set_cons_zero, List.set_cons_succ]
  refine wpAny_take (i := 1) (oi := { dst := some 17, op := Op.move (Operand.tmp 0), type := 22, pos := "law.go:23", after := #[], guard := none }) (v := ?_) rfl (by kernel_rfl) (by kernel_rfl) (by kernel_rfl) (fun _ _ _ h => h) (Or.inl ⟨by rfl, ?_⟩) ?_
  rotate_left
  · intro w'
    go_simp
    try with_reducible rfl
  try simp only [Act.put, List.setIfInBounds_toArray, List.set_cons_zero, List.set_cons_succ]
  refine wpAny_take (i := 2) (oi := { dst := some 18, op := Op.move (Operand.tmp 4), type := 3, pos := "law.go:23", after := #[], guard := none }) (v := ?_) rfl (by kernel_rfl) (by kernel_rfl) (by kernel_rfl) (fun _ _ _ h => h) (Or.inl ⟨by rfl, ?_⟩) ?_
  rotate_left
  · intro w'
    go_simp
    try with_reducible rfl
  try simp only [Act.put, List.setIfInBounds_toArray, List.set_cons_zero, List.set_cons_succ]
  refine wpAny_take (i := 3) (oi := { dst := some 19, op := Op.indexAddr 22 (Operand.tmp 17) (Operand.tmp 18), type := 0, pos := "law.go:23", after := #[{ on := 1, ground := Ground.data }, { on := 2, ground := Ground.data }], guard := none }) (v := ?_) rfl (by kernel_rfl) (by kernel_rfl) (by kernel_rfl) (fun _ _ _ h => h) (Or.inl ⟨by rfl, ?_⟩) ?_
  rotate_left
  · intro w'
    go_simp
    try with_reducible rfl
  try simp only [Act.put, List.setIfInBounds_toArray, List.set_cons_zero, List.set_cons_succ]
  refine wpAny_take (i := 5) (oi := { dst := some 21, op := Op.move (Operand.tmp 0), type := 22, pos := "law.go:23", after := #[], guard := none }) (v := ?_) rfl (by kernel_rfl) (by kernel_rfl) (by kernel_rfl) (fun _ _ _ h => h) (Or.inl ⟨by rfl, ?_⟩) ?_
  rotate_left
  · intro w'
    go_simp
    try with_reducible rfl
  try simp only [Act.put, List.setIfInBounds_toArray, List.set_cons_zero, List.set_cons_succ]
  refine wpAny_take (i := 6) (oi := { dst := some 22, op := Op.move (Operand.tmp 4), type := 3, pos := "law.go:23", after := #[], guard := none }) (v := ?_) rfl (by kernel_rfl) (by kernel_rfl) (by kernel_rfl) (fun _ _ _ h => h) (Or.inl ⟨by rfl, ?_⟩) ?_
  rotate_left
  · intro w'
    go_simp
    try with_reducible rfl
  try simp only [Act.put, List.setIfInBounds_toArray, List.set_cons_zero, List.set_cons_succ]
  refine wpAny_take (i := 7) (oi := { dst := some 23, op := Op.indexAddr 22 (Operand.tmp 21) (Operand.tmp 22), type := 0, pos := "law.go:23", after := #[{ on := 5, ground := Ground.data }, { on := 6, ground := Ground.data }], guard := none }) (v := ?_) rfl (by kernel_rfl) (by kernel_rfl) (by kernel_rfl) (fun _ _ _ h => h) (Or.inl ⟨by rfl, ?_⟩) ?_
  rotate_left
  · intro w'
    go_simp
    try with_reducible rfl
  try simp only [Act.put, List.setIfInBounds_toArray, List.set_cons_zero, List.set_cons_succ]
  refine wpAny_ready (rs := [4, 8]) (by kernel_rfl) (by simp) ?_
  refine (AllReady.cons (o := { dst := some 20, op := Op.load 9 (Operand.tmp 19), type := 9, pos := "law.go:23", after := #[{ on := 3, ground := Ground.data }], guard := none }) rfl (fun K4 hK4 => ?_) (AllReady.cons (o := { dst := some 24, op := Op.load 9 (Operand.tmp 23), type := 9, pos := "law.go:23", after := #[{ on := 7, ground := Ground.data }], guard := none }) rfl (fun K8 hK8 => ?_) AllReady.nil))
  · refine step_val2 (by rfl) (run_ldx _ rfl (ldv9 c0)) ?_
    refine hK4 _ _ ?_
    clear hK4 K4
    try simp only [Act.put, List.setIfInBounds_toArray, List.set_cons_zero, List.set_cons_succ]
    refine wpAny_ready (rs := [8]) (by kernel_rfl) (by simp) ?_
    refine (AllReady.cons (o := { dst := some 24, op := Op.load 9 (Operand.tmp 23), type := 9, pos := "law.go:23", after := #[{ on := 7, ground := Ground.data }], guard := none }) rfl (fun K8 hK8 => ?_) AllReady.nil)
    refine step_val2 (by rfl) (run_ldx _ rfl (ldv9 c0)) ?_
    refine hK8 _ _ ?_
    clear hK8 K8
    try simp only [Act.put, List.setIfInBounds_toArray, List.set_cons_zero, List.set_cons_succ]
    refine wpAny_take (i := 9) (oi := { dst := some 25, op := Op.call { callee := Callee.builtin Builtin.len, args := #[Operand.tmp 24], argTypes := #[9] }, type := 3, pos := "law.go:23", after := #[{ on := 8, ground := Ground.data }], guard := none }) (v := ?_) rfl (by kernel_rfl) (by kernel_rfl) (by kernel_rfl) (fun _ _ _ h => h) (Or.inl ⟨by rfl, ?_⟩) ?_
    rotate_left
    · intro w'
      go_simp
      try with_reducible rfl
    try simp only [Act.put, List.setIfInBounds_toArray, List.set_cons_zero, List.set_cons_succ]
    refine wpAny_ready (rs := [10]) (by kernel_rfl) (by simp) ?_
    refine (AllReady.cons (o := { dst := some 26, op := Op.call { callee := Callee.builtin Builtin.min, args := #[Operand.tmp 25, Operand.const (Value.int IntKind.i64 257)], argTypes := #[3, 3] }, type := 3, pos := "law.go:23", after := #[{ on := 9, ground := Ground.data }], guard := none }) rfl (fun K10 hK10 => ?_) AllReady.nil)
    refine step_val2 (by rfl) (run_minx _ rfl rfl e1.out) ?_
    refine hK10 _ _ ?_
    clear hK10 K10
    try simp only [Act.put, List.setIfInBounds_toArray, List.set_cons_zero, List.set_cons_succ]
    refine wpAny_ready (rs := [11]) (by kernel_rfl) (by simp) ?_
    refine (AllReady.cons (o := { dst := some 27, op := Op.slice 9 (Operand.tmp 20) none (some (Operand.tmp 26)) none, type := 9, pos := "law.go:23", after := #[{ on := 4, ground := Ground.data }, { on := 10, ground := Ground.data }], guard := none }) rfl (fun K11 hK11 => ?_) AllReady.nil)
    refine step_val2 (by rfl) (run_slS _ rfl rfl (hsl.out _)) ?_
    refine hK11 _ _ ?_
    clear hK11 K11
    try simp only [Act.put, List.setIfInBounds_toArray, List.set_cons_zero, List.set_cons_succ]
    refine wpAny_ready (rs := [12]) (by kernel_rfl) (by simp) ?_
    refine (AllReady.cons (o := { dst := some 28, op := Op.buildSlice 22 1 #[(0, Operand.tmp 27)], type := 22, pos := "law.go:23", after := #[{ on := 11, ground := Ground.data }], guard := none }) rfl (fun K12 hK12 => ?_) AllReady.nil)
    refine step_val2 (by rfl) (bs22 _ rfl _) ?_
    refine hK12 _ _ ?_
    clear hK12 K12
    try simp only [Act.put, List.setIfInBounds_toArray, List.set_cons_zero, List.set_cons_succ]
    refine wpAny_ready (rs := [13]) (by kernel_rfl) (by simp) ?_
    refine (AllReady.cons (o := { dst := some 29, op := Op.call { callee := Callee.builtin Builtin.append, args := #[Operand.tmp 16, Operand.tmp 28], argTypes := #[22, 22] }, type := 22, pos := "law.go:23", after := #[{ on := 0, ground := Ground.data }, { on := 12, ground := Ground.data }], guard := none }) rfl (fun K13 hK13 => ?_) AllReady.nil)
    refine step_val2 (by rfl) (app22 rfl rfl hr.out) ?_
    refine hK13 _ _ ?_
    clear hK13 K13
    try simp only [Act.put, List.setIfInBounds_toArray, List.set_cons_zero, List.set_cons_succ]
    refine wpAny_take (i := 14) (oi := { dst := some 3, op := Op.assign (Operand.tmp 29), type := 22, pos := "law.go:23", after := #[{ on := 13, ground := Ground.data }, { on := 13, ground := Ground.chain }, { on := 0, ground := Ground.phase }, { on := 1, ground := Ground.phase }, { on := 2, ground := Ground.phase }, { on := 3, ground := Ground.phase }, { on := 4, ground := Ground.phase }, { on := 5, ground := Ground.phase }, { on := 6, ground := Ground.phase }, { on := 7, ground := Ground.phase }, { on := 8, ground := Ground.phase }, { on := 9, ground := Ground.phase }, { on := 10, ground := Ground.phase }, { on := 11, ground := Ground.phase }, { on := 12, ground := Ground.phase }, { on := 13, ground := Ground.phase }], guard := none }) (v := ?_) rfl (by kernel_rfl) (by kernel_rfl) (by kernel_rfl) (fun _ _ _ h => h) (Or.inl ⟨by rfl, ?_⟩) ?_
    rotate_left
    · intro w'
      go_simp
      try with_reducible rfl
    try simp only [Act.put, List.setIfInBounds_toArray, List.set_cons_zero, List.set_cons_succ]
    refine wpAny_done (by kernel_rfl) ?_ _
    refine NoPanic.normal ?_
    exact h.out
  · refine step_val2 (by rfl) (run_ldx _ rfl (ldv9 c0)) ?_
    refine hK8 _ _ ?_
    clear hK8 K8
    try simp only [Act.put, List.setIfInBounds_toArray, List.set_cons_zero, List.set_cons_succ]
    refine wpAny_take (i := 9) (oi := { dst := some 25, op := Op.call { callee := Callee.builtin Builtin.len, args := #[Operand.tmp 24], argTypes := #[9] }, type := 3, pos := "law.go:23", after := #[{ on := 8, ground := Ground.data }], guard := none }) (v := ?_) rfl (by kernel_rfl) (by kernel_rfl) (by kernel_rfl) (fun _ _ _ h => h) (Or.inl ⟨by rfl, ?_⟩) ?_
    rotate_left
    · intro w'
      go_simp
      try with_reducible rfl
    try simp only [Act.put, List.setIfInBounds_toArray, List.set_cons_zero, List.set_cons_succ]
    refine wpAny_ready (rs := [4, 10]) (by kernel_rfl) (by simp) ?_
    refine (AllReady.cons (o := { dst := some 20, op := Op.load 9 (Operand.tmp 19), type := 9, pos := "law.go:23", after := #[{ on := 3, ground := Ground.data }], guard := none }) rfl (fun K4 hK4 => ?_) (AllReady.cons (o := { dst := some 26, op := Op.call { callee := Callee.builtin Builtin.min, args := #[Operand.tmp 25, Operand.const (Value.int IntKind.i64 257)], argTypes := #[3, 3] }, type := 3, pos := "law.go:23", after := #[{ on := 9, ground := Ground.data }], guard := none }) rfl (fun K10 hK10 => ?_) AllReady.nil))
    · refine step_val2 (by rfl) (run_ldx _ rfl (ldv9 c0)) ?_
      refine hK4 _ _ ?_
      clear hK4 K4
      try simp only [Act.put, List.setIfInBounds_toArray, List.set_cons_zero, List.set_cons_succ]
      refine wpAny_ready (rs := [10]) (by kernel_rfl) (by simp) ?_
      refine (AllReady.cons (o := { dst := some 26, op := Op.call { callee := Callee.builtin Builtin.min, args := #[Operand.tmp 25, Operand.const (Value.int IntKind.i64 257)], argTypes := #[3, 3] }, type := 3, pos := "law.go:23", after := #[{ on := 9, ground := Ground.data }], guard := none }) rfl (fun K10 hK10 => ?_) AllReady.nil)
      refine step_val2 (by rfl) (run_minx _ rfl rfl e1.out) ?_
      refine hK10 _ _ ?_
      clear hK10 K10
      try simp only [Act.put, List.setIfInBounds_toArray, List.set_cons_zero, List.set_cons_succ]
      refine wpAny_ready (rs := [11]) (by kernel_rfl) (by simp) ?_
      refine (AllReady.cons (o := { dst := some 27, op := Op.slice 9 (Operand.tmp 20) none (some (Operand.tmp 26)) none, type := 9, pos := "law.go:23", after := #[{ on := 4, ground := Ground.data }, { on := 10, ground := Ground.data }], guard := none }) rfl (fun K11 hK11 => ?_) AllReady.nil)
      refine step_val2 (by rfl) (run_slS _ rfl rfl (hsl.out _)) ?_
      refine hK11 _ _ ?_
      clear hK11 K11
      try simp only [Act.put, List.setIfInBounds_toArray, List.set_cons_zero, List.set_cons_succ]
      refine wpAny_ready (rs := [12]) (by kernel_rfl) (by simp) ?_
      refine (AllReady.cons (o := { dst := some 28, op := Op.buildSlice 22 1 #[(0, Operand.tmp 27)], type := 22, pos := "law.go:23", after := #[{ on := 11, ground := Ground.data }], guard := none }) rfl (fun K12 hK12 => ?_) AllReady.nil)
      refine step_val2 (by rfl) (bs22 _ rfl _) ?_
      refine hK12 _ _ ?_
      clear hK12 K12
      try simp only [Act.put, List.setIfInBounds_toArray, List.set_cons_zero, List.set_cons_succ]
      refine wpAny_ready (rs := [13]) (by kernel_rfl) (by simp) ?_
      refine (AllReady.cons (o := { dst := some 29, op := Op.call { callee := Callee.builtin Builtin.append, args := #[Operand.tmp 16, Operand.tmp 28], argTypes := #[22, 22] }, type := 22, pos := "law.go:23", after := #[{ on := 0, ground := Ground.data }, { on := 12, ground := Ground.data }], guard := none }) rfl (fun K13 hK13 => ?_) AllReady.nil)
      refine step_val2 (by rfl) (app22 rfl rfl hr.out) ?_
      refine hK13 _ _ ?_
      clear hK13 K13
      try simp only [Act.put, List.setIfInBounds_toArray, List.set_cons_zero, List.set_cons_succ]
      refine wpAny_take (i := 14) (oi := { dst := some 3, op := Op.assign (Operand.tmp 29), type := 22, pos := "law.go:23", after := #[{ on := 13, ground := Ground.data }, { on := 13, ground := Ground.chain }, { on := 0, ground := Ground.phase }, { on := 1, ground := Ground.phase }, { on := 2, ground := Ground.phase }, { on := 3, ground := Ground.phase }, { on := 4, ground := Ground.phase }, { on := 5, ground := Ground.phase }, { on := 6, ground := Ground.phase }, { on := 7, ground := Ground.phase }, { on := 8, ground := Ground.phase }, { on := 9, ground := Ground.phase }, { on := 10, ground := Ground.phase }, { on := 11, ground := Ground.phase }, { on := 12, ground := Ground.phase }, { on := 13, ground := Ground.phase }], guard := none }) (v := ?_) rfl (by kernel_rfl) (by kernel_rfl) (by kernel_rfl) (fun _ _ _ h => h) (Or.inl ⟨by rfl, ?_⟩) ?_
      rotate_left
      · intro w'
        go_simp
        try with_reducible rfl
      try simp only [Act.put, List.setIfInBounds_toArray, List.set_cons_zero, List.set_cons_succ]
      refine wpAny_done (by kernel_rfl) ?_ _
      refine NoPanic.normal ?_
      exact h.out
    · refine step_val2 (by rfl) (run_minx _ rfl rfl e1.out) ?_
      refine hK10 _ _ ?_
      clear hK10 K10
      try simp only [Act.put, List.setIfInBounds_toArray, List.set_cons_zero, List.set_cons_succ]
      refine wpAny_ready (rs := [4]) (by kernel_rfl) (by simp) ?_
      refine (AllReady.cons (o := { dst := some 20, op := Op.load 9 (Operand.tmp 19), type := 9, pos := "law.go:23", after := #[{ on := 3, ground := Ground.data }], guard := none }) rfl (fun K4 hK4 => ?_) AllReady.nil)
      refine step_val2 (by rfl) (run_ldx _ rfl (ldv9 c0)) ?_
      refine hK4 _ _ ?_
      clear hK4 K4
      try simp only [Act.put, List.setIfInBounds_toArray, List.set_cons_zero, List.set_cons_succ]
      refine wpAny_ready (rs := [11]) (by kernel_rfl) (by simp) ?_
      refine (AllReady.cons (o := { dst := some 27, op := Op.slice 9 (Operand.tmp 20) none (some (Operand.tmp 26)) none, type := 9, pos := "law.go:23", after := #[{ on := 4, ground := Ground.data }, { on := 10, ground := Ground.data }], guard := none }) rfl (fun K11 hK11 => ?_) AllReady.nil)
      refine step_val2 (by rfl) (run_slS _ rfl rfl (hsl.out _)) ?_
      refine hK11 _ _ ?_
      clear hK11 K11
      try simp only [Act.put, List.setIfInBounds_toArray, List.set_cons_zero, List.set_cons_succ]
      refine wpAny_ready (rs := [12]) (by kernel_rfl) (by simp) ?_
      refine (AllReady.cons (o := { dst := some 28, op := Op.buildSlice 22 1 #[(0, Operand.tmp 27)], type := 22, pos := "law.go:23", after := #[{ on := 11, ground := Ground.data }], guard := none }) rfl (fun K12 hK12 => ?_) AllReady.nil)
      refine step_val2 (by rfl) (bs22 _ rfl _) ?_
      refine hK12 _ _ ?_
      clear hK12 K12
      try simp only [Act.put, List.setIfInBounds_toArray, List.set_cons_zero, List.set_cons_succ]
      refine wpAny_ready (rs := [13]) (by kernel_rfl) (by simp) ?_
      refine (AllReady.cons (o := { dst := some 29, op := Op.call { callee := Callee.builtin Builtin.append, args := #[Operand.tmp 16, Operand.tmp 28], argTypes := #[22, 22] }, type := 22, pos := "law.go:23", after := #[{ on := 0, ground := Ground.data }, { on := 12, ground := Ground.data }], guard := none }) rfl (fun K13 hK13 => ?_) AllReady.nil)
      refine step_val2 (by rfl) (app22 rfl rfl hr.out) ?_
      refine hK13 _ _ ?_
      clear hK13 K13
      try simp only [Act.put, List.setIfInBounds_toArray, List.set_cons_zero, List.set_cons_succ]
      refine wpAny_take (i := 14) (oi := { dst := some 3, op := Op.assign (Operand.tmp 29), type := 22, pos := "law.go:23", after := #[{ on := 13, ground := Ground.data }, { on := 13, ground := Ground.chain }, { on := 0, ground := Ground.phase }, { on := 1, ground := Ground.phase }, { on := 2, ground := Ground.phase }, { on := 3, ground := Ground.phase }, { on := 4, ground := Ground.phase }, { on := 5, ground := Ground.phase }, { on := 6, ground := Ground.phase }, { on := 7, ground := Ground.phase }, { on := 8, ground := Ground.phase }, { on := 9, ground := Ground.phase }, { on := 10, ground := Ground.phase }, { on := 11, ground := Ground.phase }, { on := 12, ground := Ground.phase }, { on := 13, ground := Ground.phase }], guard := none }) (v := ?_) rfl (by kernel_rfl) (by kernel_rfl) (by kernel_rfl) (fun _ _ _ h => h) (Or.inl ⟨by rfl, ?_⟩) ?_
      rotate_left
      · intro w'
        go_simp
        try with_reducible rfl
      try simp only [Act.put, List.setIfInBounds_toArray, List.set_cons_zero, List.set_cons_succ]
      refine wpAny_done (by kernel_rfl) ?_ _
      refine NoPanic.normal ?_
      exact h.out

end Go.Proofs.Ytbinnpadmajgpaa
