/-
  The parser; Parse.
-/
import Derived.Test.YtkfdikpnnkbgaaaGreatDoorP
namespace Go.Proofs.YtkfdikpnnkbgaaaGreatDoor
open Go.RowKit
set_option linter.unusedVariables false
set_option linter.unusedSimpArgs false

section
variable {S : Nat → Prop} {w0 w : World} {L : List Ent} {ops : Array Oper} {rest : List Oper} {a : Act} {Q : Exit → Act → World → Prop} {dst : Option Nat} {x y : Operand} {ty : TypeId} {pos : String} {after : Array Edge}
/-- A box is made, and it is known where. -/
theorem wl_allocE (t : TypeId) (zs : Array Value) (H : St S w0 w L) {g : Nat} (hg : w.heap.size = g) (hz : ∀ w, (execOp a.eval ⟨dst, .alloc t, ty, pos, after, none⟩).run Tryz.prog w = .ok (.value (.pointer (some ⟨w.heap.size, 0, none⟩))) (w.alloc (.cells zs t)))
    (h : ∀ w', St S w0 w' ((true, g, t, zs) :: L) → w'.heap.size = g + 1 → wpList Tryz.prog ops Q rest (a.put dst (.pointer (some ⟨g, 0, none⟩))) w') : wpList Tryz.prog ops Q (⟨dst, .alloc t, ty, pos, after, none⟩ :: rest) a w := by
  subst hg
  refine wpList_plain rfl fun K hK => ?_
  unfold Oper.wp
  rw [hz, Oper.upon_value]
  exact hK _ _ (h _ (H.alloc t zs) (by simp))
theorem run_alloc3 (w : World) : (execOp a.eval ⟨dst, .alloc 3, ty, pos, after, none⟩).run Tryz.prog w = .ok (.value (.pointer (some ⟨w.heap.size, 0, none⟩))) (w.alloc (.cells #[.int .i64 0] 3)) := by
  unfold execOp
  kernel_rfl
theorem run_alloc4 (w : World) : (execOp a.eval ⟨dst, .alloc 4, ty, pos, after, none⟩).run Tryz.prog w = .ok (.value (.pointer (some ⟨w.heap.size, 0, none⟩))) (w.alloc (.cells #[.bool false] 4)) := by
  unfold execOp
  kernel_rfl
theorem run_alloc59 (w : World) : (execOp a.eval ⟨dst, .alloc 160, ty, pos, after, none⟩).run Tryz.prog w = .ok (.value (.pointer (some ⟨w.heap.size, 0, none⟩))) (w.alloc (.cells #[.nilFunc] 160)) := by
  unfold execOp
  kernel_rfl
theorem run_alloc70 (w : World) : (execOp a.eval ⟨dst, .alloc 176, ty, pos, after, none⟩).run Tryz.prog w = .ok (.value (.pointer (some ⟨w.heap.size, 0, none⟩))) (w.alloc (.cells #[.nilFunc] 176)) := by
  unfold execOp
  kernel_rfl
theorem wl_box9 (H : St S w0 w L) {s : ByteArray} (hx : a.eval x = .string s) {g : Nat} (hg : w.heap.size = g)
    (h : ∀ w', St S w0 w' ((true, g, 9, #[.string s]) :: L) → w'.heap.size = g + 1 → wpList Tryz.prog ops Q rest (a.put dst (.pointer (some ⟨g, 0, none⟩))) w') : wpList Tryz.prog ops Q (⟨dst, .box 9 x, ty, pos, after, none⟩ :: rest) a w := by
  subst hg
  refine wpList_plain rfl fun K hK => ?_
  have e : (execOp a.eval ⟨dst, .box 9 x, ty, pos, after, none⟩).run Tryz.prog w = .ok (.value (.pointer (some ⟨w.heap.size, 0, none⟩))) (w.alloc (.cells #[.string s] 9)) := by
    unfold execOp
    simp only [hx]
    kernel_rfl
  unfold Oper.wp
  rw [e, Oper.upon_value]
  exact hK _ _ (h _ (H.alloc 9 _) (by simp))
theorem wl_storeS (i : Nat) (ty' : TypeId) (H : St S w0 w L) {t : TypeId} {g : Nat} {u v : Value} (h : L[i]? = some (true, g, t, #[u])) (hx : a.eval x = .pointer (some ⟨g, 0, none⟩)) (hy : a.eval y = v) (hi : ∀ w, (sizeOf ty').run Tryz.prog w = .ok 1 w) (h1 : v.oneCell' = true) {z : Nat} (hz : w.heap.size = z)
    (k : ∀ w', St S w0 w' (L.set i (true, g, t, #[v])) → w'.heap.size = z → wpList Tryz.prog ops Q rest a w') : wpList Tryz.prog ops Q (⟨none, .store ty' x y, ty, pos, after, none⟩ :: rest) a w := by
  refine wpList_plain rfl fun K hK => ?_
  have h2 := H.setCell i h 0 v
  have hc : w.cell? ⟨g, 0, none⟩ = some u := H.cell i 0 h rfl
  have hf := H.fz i 0 h
  have hcs : v.cells = #[v] := by cases v <;> first | rfl | cases h1
  have hst : (storeVar ty' ⟨g, 0, none⟩ v).run Tryz.prog w = .ok () (w.setCell ⟨g, 0, none⟩ v) := by
    have e : (storeCells ⟨g, 0, none⟩ [v]).run Tryz.prog w = .ok () (w.setCell ⟨g, 0, none⟩ v) := by simp [storeCells, go_sem, run_store Tryz.prog w _ v _ h1, stored, hc, hf]
    unfold storeVar
    simp only [Sem.run_bind, hi, Result.andThen_ok, hcs]
    simpa using e
  unfold Oper.wp execOp
  simp only [hx, hy, Instr.storeAt, Instr.sureAddr, Sem.run_bind, Sem.run_pure, Result.andThen_ok, hst]
  exact hK _ _ (k _ h2 (by rw [← hz]; simp [World.setCell]))
end
set_option maxHeartbeats 8000000 in
theorem parser_any (s : ByteArray) (w : World) (n : Nat) (hz : w.heap.size = n) : Calls Tryz.prog 74 #[.string s] w fun e w' => e = .returned (.func (.func 112) #[] #[.pointer (some ⟨n + 4, 0, none⟩), .pointer (some ⟨n + 1, 0, none⟩), .pointer (some ⟨n + 3, 0, none⟩), .pointer (some ⟨n, 0, none⟩)]) ∧ Ev w' n s 0 0 true ∧ Below n w w' := by
  have hmf : ∀ (fn : Fn) (first cap : Array Value) (w : World), (Instr.makeFunc fn first cap).run Tryz.prog w = .ok (.func fn first cap) w := fun _ _ _ _ => rfl
  have H := St.start Nope w
  have hz0 := hide hz
  go_enter Tryz.func74, Tryz.ntmps74
  go_wp2_with (first | (with_reducible refine at_box 9 ?_; refine wl_box9 H rfl hz ?_; clear H hz; intro w' H hz) | (with_reducible refine at_alloc 3 ?_; refine wl_allocE 3 _ H hz (fun w => run_alloc3 w) ?_; clear H hz; intro w' H hz) | (with_reducible refine at_alloc 4 ?_; refine wl_allocE 4 _ H hz (fun w => run_alloc4 w) ?_; clear H hz; intro w' H hz) | (with_reducible refine at_alloc 160 ?_; refine wl_allocE 160 _ H hz (fun w => run_alloc59 w) ?_; clear H hz; intro w' H hz) | (with_reducible refine at_store 3 ?_; first | (refine wl_storeS 1 3 H rfl rfl rfl one3 rfl hz ?_; clear H hz; intro w' H hz) | (refine wl_storeS 2 3 H rfl rfl rfl one3 rfl hz ?_; clear H hz; intro w' H hz)) | (with_reducible refine at_store 4 ?_; first | (refine wl_storeS 0 4 H rfl rfl rfl one4 rfl hz ?_; clear H hz; intro w' H hz)) | (with_reducible refine at_store 160 ?_; first | (refine wl_storeS 0 160 H rfl rfl rfl one59 rfl hz ?_; clear H hz; intro w' H hz) | (refine wl_storeS 4 160 H rfl rfl rfl one59 rfl hz ?_; clear H hz; intro w' H hz)))
  go_ret
  refine ⟨rfl, fun x hx => ?_, by rw [← hz0.out]; exact H.below⟩
  simp only [env, List.mem_cons, List.not_mem_nil, or_false] at hx
  rcases hx with rfl | rfl | rfl | rfl | rfl | rfl | rfl | rfl | rfl
  · exact H.get (b := true) 7 rfl
  · exact H.get (b := true) 6 rfl
  · exact H.get (b := true) 5 rfl
  · exact H.get (b := true) 8 rfl
  · exact H.get (b := true) 4 rfl
  · exact H.get (b := true) 3 rfl
  · exact H.get (b := true) 2 rfl
  · exact H.get (b := true) 1 rfl
  · exact H.get (b := true) 0 rfl
open Go.RowKit
set_option linter.unusedVariables false
set_option linter.unusedSimpArgs false

theorem run_ld28 {ev : Operand → Value} {dst : Option Nat} {ty : TypeId} {pos : String} {after : Array Edge} {gd : Option (Nat × Bool)} {x : Operand} {g : Nat} {v : Value} {w : World} (hx : ev x = .pointer (some ⟨g, 0, none⟩)) (hl : (loadVar 27 ⟨g, 0, none⟩).run Tryz.prog w = .ok v w) : (execOp ev ⟨dst, .load 27 x, ty, pos, after, gd⟩).run Tryz.prog w = .ok (.value v) w := by
  unfold execOp
  simp only [hx, Instr.loadAt, Instr.sureAddr, Sem.run_bind, Sem.run_pure, Result.andThen_ok, hl]
theorem wp_storeV {o : Oper} {a : Act} {w w' : World} {K : Act → World → Prop} {Q : Exit → Act → World → Prop} {x y : Operand} (ho : o.op = .store 27 x y) {g : Nat} {v : Value} (hx : a.eval x = .pointer (some ⟨g, 0, none⟩)) (hy : a.eval y = v) (hst : (storeVar 27 ⟨g, 0, none⟩ v).run Tryz.prog w = .ok () w') (h : K (a.put o.dst undef) w') : o.wp Tryz.prog a w K Q := by
  unfold Oper.wp execOp
  simp only [ho, hx, hy, Instr.storeAt, Instr.sureAddr, Sem.run_bind, Sem.run_pure, Result.andThen_ok, hst]
  exact h
set_option maxHeartbeats 8000000 in
set_option maxRecDepth 100000 in
theorem reg37t (w w' : World) (n g g2 a : Nat) (s : ByteArray) (k : Int) (sx : S4) (l : Value) (mn mx : Int) (b : Bool) (hb : ((a : Int) == (s.size : Int)) = b) (d1 : w.cell? ⟨n + 1, 0, none⟩ = some (.int .i64 (a : Int))) (d2 : w.cell? ⟨n + 3, 0, none⟩ = some (.bool true)) (d3 : w.cell? ⟨n, 0, none⟩ = some (.string s)) (d4 : ∀ m, (loadVar 27 ⟨g2, 0, none⟩).run Tryz.prog (w.drewN m) = .ok (reV k sx l mn mx) (w.drewN m)) (d5 : (storeVar 27 ⟨g, 0, none⟩ (reV k sx l mn mx)).run Tryz.prog w.drew = .ok () w') (e1 : w'.cell? ⟨n + 1, 0, none⟩ = some (.int .i64 (a : Int))) (e2 : w'.cell? ⟨n + 3, 0, none⟩ = some (.bool true)) (e3 : w'.cell? ⟨n, 0, none⟩ = some (.string s)) (e4 : (loadVar 27 ⟨g2, 0, none⟩).run Tryz.prog w' = .ok (reV k sx l mn mx) w')
    (u5 u6 u8 u9 u10 u11 u12 u13 u14 u15 u16 u17 u18 : Value) (Q : Exit → Act → World → Prop) (h : Q .normal { tmps := (List.toArray ((.pointer (some ⟨n + 4, 0, none⟩) :: .pointer (some ⟨n + 1, 0, none⟩) :: .pointer (some ⟨n + 3, 0, none⟩) :: .pointer (some ⟨n, 0, none⟩) :: .pointer (some ⟨g, 0, none⟩) :: .int .i64 (a : Int) :: .bool b :: .pointer (some ⟨g2, 0, none⟩) :: u8 :: u9 :: reV k sx l mn mx :: .int .i64 (a : Int) :: .bool true :: .bool true :: .int .i64 (a : Int) :: .string s :: .int .i64 (s.size : Int) :: .bool b :: .bool b :: []) : List Value)), defers := [] } w') :
    (Code.region 2 #[{ dst := some 10, op := Op.load 27 (Operand.tmp 7), type := 27, pos := "parse.go:66", after := #[], guard := none }, { dst := some 11, op := Op.load 3 (Operand.tmp 1), type := 3, pos := "parse.go:66", after := #[{ on := 9, ground := Ground.gcOnly Departure.lateStores }], guard := none }, { dst := some 12, op := Op.load 4 (Operand.tmp 2), type := 4, pos := "parse.go:66", after := #[], guard := none }, { dst := some 13, op := Op.move (Operand.tmp 12), type := 4, pos := "parse.go:66", after := #[{ on := 2, ground := Ground.data }], guard := none }, { dst := some 14, op := Op.load 3 (Operand.tmp 1), type := 3, pos := "parse.go:66", after := #[{ on := 3, ground := Ground.guard }, { on := 10, ground := Ground.gcOnly Departure.lateStores }], guard := some (3, true) }, { dst := some 15, op := Op.load 9 (Operand.tmp 3), type := 9, pos := "parse.go:66", after := #[{ on := 3, ground := Ground.guard }], guard := some (3, true) }, { dst := some 16, op := Op.call { callee := Callee.builtin Builtin.len, args := #[Operand.tmp 15], argTypes := #[9] }, type := 3, pos := "parse.go:66", after := #[{ on := 5, ground := Ground.data }, { on := 3, ground := Ground.guard }], guard := some (3, true) }, { dst := some 17, op := Op.binOp BinOp.eql 3 (Operand.tmp 14) (Operand.tmp 16) 3, type := 4, pos := "parse.go:66", after := #[{ on := 4, ground := Ground.data }, { on := 6, ground := Ground.data }, { on := 3, ground := Ground.guard }, { on := 10, ground := Ground.gcOnly Departure.lateStores }], guard := some (3, true) }, { dst := some 18, op := Op.pick (Operand.tmp 13) (Operand.tmp 17) (Operand.const (Value.bool false)), type := 4, pos := "parse.go:66", after := #[{ on := 3, ground := Ground.data }, { on := 7, ground := Ground.data }, { on := 10, ground := Ground.gcOnly Departure.lateStores }], guard := none }, { dst := none, op := Op.store 27 (Operand.tmp 4) (Operand.tmp 10), type := 0, pos := "parse.go:66", after := #[{ on := 0, ground := Ground.data }, { on := 3, ground := Ground.chain }, { on := 0, ground := Ground.phase }, { on := 1, ground := Ground.textOnly Departure.lateStores }, { on := 2, ground := Ground.textOnly Departure.lateStores }, { on := 3, ground := Ground.textOnly Departure.lateStores }, { on := 4, ground := Ground.textOnly Departure.lateStores }, { on := 5, ground := Ground.textOnly Departure.lateStores }, { on := 6, ground := Ground.textOnly Departure.lateStoresUnsure }, { on := 7, ground := Ground.textOnly Departure.lateStores }, { on := 8, ground := Ground.textOnly Departure.lateStores }], guard := none }, { dst := some 5, op := Op.assign (Operand.tmp 11), type := 3, pos := "parse.go:66", after := #[{ on := 1, ground := Ground.data }, { on := 9, ground := Ground.chain }, { on := 0, ground := Ground.phase }, { on := 1, ground := Ground.phase }, { on := 2, ground := Ground.textOnly Departure.lateStores }, { on := 3, ground := Ground.textOnly Departure.lateStores }, { on := 4, ground := Ground.textOnly Departure.lateStores }, { on := 5, ground := Ground.textOnly Departure.lateStores }, { on := 6, ground := Ground.textOnly Departure.lateStoresUnsure }, { on := 7, ground := Ground.textOnly Departure.lateStores }, { on := 8, ground := Ground.textOnly Departure.lateStores }, { on := 9, ground := Ground.phase }], guard := none }, { dst := some 6, op := Op.assign (Operand.tmp 18), type := 4, pos := "parse.go:66", after := #[{ on := 8, ground := Ground.data }, { on := 10, ground := Ground.chain }, { on := 0, ground := Ground.phase }, { on := 1, ground := Ground.phase }, { on := 2, ground := Ground.phase }, { on := 3, ground := Ground.phase }, { on := 4, ground := Ground.phase }, { on := 5, ground := Ground.phase }, { on := 6, ground := Ground.phase }, { on := 7, ground := Ground.phase }, { on := 8, ground := Ground.phase }, { on := 9, ground := Ground.phase }, { on := 10, ground := Ground.phase }], guard := none }] true).wp Tryz.prog Q { tmps := (List.toArray ((.pointer (some ⟨n + 4, 0, none⟩) :: .pointer (some ⟨n + 1, 0, none⟩) :: .pointer (some ⟨n + 3, 0, none⟩) :: .pointer (some ⟨n, 0, none⟩) :: .pointer (some ⟨g, 0, none⟩) :: u5 :: u6 :: .pointer (some ⟨g2, 0, none⟩) :: u8 :: u9 :: u10 :: u11 :: u12 :: u13 :: u14 :: u15 :: u16 :: u17 :: u18 :: []) : List Value)), defers := [] } w := by
  replace h := hide h
  refine wp_region_noPanic ?_
  refine wp_region_held_drew (S := (fun w' => w'.cell? ⟨n + 1, 0, none⟩ = some (.int .i64 (a : Int)) ∧ w'.cell? ⟨n + 3, 0, none⟩ = some (.bool true) ∧ w'.cell? ⟨n, 0, none⟩ = some (.string s) ∧ (loadVar 27 ⟨g2, 0, none⟩).run Tryz.prog w' = .ok (reV k sx l mn mx) w')) (by kernel_rfl) ⟨d1, d2, d3, d4 1⟩ (fun hH0 => ?_)
  refine wpAnyH_take (i := 0) (oi := { dst := some 10, op := Op.load 27 (Operand.tmp 7), type := 27, pos := "parse.go:66", after := #[], guard := none }) (v := reV k sx l mn mx) rfl (by kernel_rfl) (by kernel_rfl) (by kernel_rfl) (fun _ _ _ h => h) (Or.inl ⟨by rfl, fun w' hw' => run_ld28 rfl hw'.2.2.2⟩) hH0 ?_
  try simp only [Act.put, List.setIfInBounds_toArray, List.set_cons_zero, List.set_cons_succ]
  refine wpAnyH_take (i := 1) (oi := { dst := some 11, op := Op.load 3 (Operand.tmp 1), type := 3, pos := "parse.go:66", after := #[{ on := 9, ground := Ground.gcOnly Departure.lateStores }], guard := none }) (v := ?_) rfl (by kernel_rfl) (by kernel_rfl) (by kernel_rfl) (fun _ _ _ h => h) (Or.inl ⟨by rfl, ?_⟩) hH0 ?_
  rotate_left
  · intro w' hw'
    obtain ⟨c1, c2, c3, c4⟩ := hw'
    go_simp
    try with_reducible rfl
  try simp only [Act.put, List.setIfInBounds_toArray, List.set_cons_zero, List.set_cons_succ]
  refine wpAnyH_take (i := 2) (oi := { dst := some 12, op := Op.load 4 (Operand.tmp 2), type := 4, pos := "parse.go:66", after := #[], guard := none }) (v := ?_) rfl (by kernel_rfl) (by kernel_rfl) (by kernel_rfl) (fun _ _ _ h => h) (Or.inl ⟨by rfl, ?_⟩) hH0 ?_
  rotate_left
  · intro w' hw'
    obtain ⟨c1, c2, c3, c4⟩ := hw'
    go_simp
    try with_reducible rfl
  try simp only [Act.put, List.setIfInBounds_toArray, List.set_cons_zero, List.set_cons_succ]
  refine wpAnyH_take (i := 3) (oi := { dst := some 13, op := Op.move (Operand.tmp 12), type := 4, pos := "parse.go:66", after := #[{ on := 2, ground := Ground.data }], guard := none }) (v := ?_) rfl (by kernel_rfl) (by kernel_rfl) (by kernel_rfl) (fun _ _ _ h => h) (Or.inl ⟨by rfl, ?_⟩) hH0 ?_
  rotate_left
  · intro w' hw'
    obtain ⟨c1, c2, c3, c4⟩ := hw'
    go_simp
    try with_reducible rfl
  try simp only [Act.put, List.setIfInBounds_toArray, List.set_cons_zero, List.set_cons_succ]
  refine wpAnyH_take (i := 4) (oi := { dst := some 14, op := Op.load 3 (Operand.tmp 1), type := 3, pos := "parse.go:66", after := #[{ on := 3, ground := Ground.guard }, { on := 10, ground := Ground.gcOnly Departure.lateStores }], guard := some (3, true) }) (v := ?_) rfl (by kernel_rfl) (by kernel_rfl) (by kernel_rfl) (fun _ _ _ h => h) (Or.inl ⟨by rfl, ?_⟩) hH0 ?_
  rotate_left
  · intro w' hw'
    obtain ⟨c1, c2, c3, c4⟩ := hw'
    go_simp
    try with_reducible rfl
  try simp only [Act.put, List.setIfInBounds_toArray, List.set_cons_zero, List.set_cons_succ]
  refine wpAnyH_take (i := 5) (oi := { dst := some 15, op := Op.load 9 (Operand.tmp 3), type := 9, pos := "parse.go:66", after := #[{ on := 3, ground := Ground.guard }], guard := some (3, true) }) (v := ?_) rfl (by kernel_rfl) (by kernel_rfl) (by kernel_rfl) (fun _ _ _ h => h) (Or.inl ⟨by rfl, ?_⟩) hH0 ?_
  rotate_left
  · intro w' hw'
    obtain ⟨c1, c2, c3, c4⟩ := hw'
    go_simp
    try with_reducible rfl
  try simp only [Act.put, List.setIfInBounds_toArray, List.set_cons_zero, List.set_cons_succ]
  refine wpAnyH_take (i := 6) (oi := { dst := some 16, op := Op.call { callee := Callee.builtin Builtin.len, args := #[Operand.tmp 15], argTypes := #[9] }, type := 3, pos := "parse.go:66", after := #[{ on := 5, ground := Ground.data }, { on := 3, ground := Ground.guard }], guard := some (3, true) }) (v := ?_) rfl (by kernel_rfl) (by kernel_rfl) (by kernel_rfl) (fun _ _ _ h => h) (Or.inl ⟨by rfl, ?_⟩) hH0 ?_
  rotate_left
  · intro w' hw'
    obtain ⟨c1, c2, c3, c4⟩ := hw'
    go_simp
    try with_reducible rfl
  try simp only [Act.put, List.setIfInBounds_toArray, List.set_cons_zero, List.set_cons_succ]
  refine wpAnyH_take (i := 7) (oi := { dst := some 17, op := Op.binOp BinOp.eql 3 (Operand.tmp 14) (Operand.tmp 16) 3, type := 4, pos := "parse.go:66", after := #[{ on := 4, ground := Ground.data }, { on := 6, ground := Ground.data }, { on := 3, ground := Ground.guard }, { on := 10, ground := Ground.gcOnly Departure.lateStores }], guard := some (3, true) }) (v := ?_) rfl (by kernel_rfl) (by kernel_rfl) (by kernel_rfl) (fun _ _ _ h => h) (Or.inl ⟨by rfl, ?_⟩) hH0 ?_
  rotate_left
  · intro w' hw'
    obtain ⟨c1, c2, c3, c4⟩ := hw'
    go_simp
    try with_reducible rfl
  try simp only [Act.put, List.setIfInBounds_toArray, List.set_cons_zero, List.set_cons_succ]
  refine wpAnyH_take (i := 8) (oi := { dst := some 18, op := Op.pick (Operand.tmp 13) (Operand.tmp 17) (Operand.const (Value.bool false)), type := 4, pos := "parse.go:66", after := #[{ on := 3, ground := Ground.data }, { on := 7, ground := Ground.data }, { on := 10, ground := Ground.gcOnly Departure.lateStores }], guard := none }) (v := ?_) rfl (by kernel_rfl) (by kernel_rfl) (by kernel_rfl) (fun _ _ _ h => h) (Or.inl ⟨by rfl, ?_⟩) hH0 ?_
  rotate_left
  · intro w' hw'
    obtain ⟨c1, c2, c3, c4⟩ := hw'
    go_simp
    try with_reducible rfl
  try simp only [Act.put, List.setIfInBounds_toArray, List.set_cons_zero, List.set_cons_succ]
  refine wpAnyH_ready (rs := [9]) (by kernel_rfl) (by simp) ?_
  refine AllReadyH.cons (o := { dst := none, op := Op.store 27 (Operand.tmp 4) (Operand.tmp 10), type := 0, pos := "parse.go:66", after := #[{ on := 0, ground := Ground.data }, { on := 3, ground := Ground.chain }, { on := 0, ground := Ground.phase }, { on := 1, ground := Ground.textOnly Departure.lateStores }, { on := 2, ground := Ground.textOnly Departure.lateStores }, { on := 3, ground := Ground.textOnly Departure.lateStores }, { on := 4, ground := Ground.textOnly Departure.lateStores }, { on := 5, ground := Ground.textOnly Departure.lateStores }, { on := 6, ground := Ground.textOnly Departure.lateStoresUnsure }, { on := 7, ground := Ground.textOnly Departure.lateStores }, { on := 8, ground := Ground.textOnly Departure.lateStores }], guard := none }) rfl (fun K hK => ?_) AllReadyH.nil
  rw [if_pos (by rfl)]
  refine wp_storeV rfl rfl rfl d5 ?_
  refine hK.out _ _ ⟨e1, e2, e3, e4⟩ (fun hH1 => ?_)
  clear hK
  try simp only [Act.put, List.setIfInBounds_toArray, List.set_cons_zero, List.set_cons_succ]
  refine wpAnyH_take (i := 10) (oi := { dst := some 5, op := Op.assign (Operand.tmp 11), type := 3, pos := "parse.go:66", after := #[{ on := 1, ground := Ground.data }, { on := 9, ground := Ground.chain }, { on := 0, ground := Ground.phase }, { on := 1, ground := Ground.phase }, { on := 2, ground := Ground.textOnly Departure.lateStores }, { on := 3, ground := Ground.textOnly Departure.lateStores }, { on := 4, ground := Ground.textOnly Departure.lateStores }, { on := 5, ground := Ground.textOnly Departure.lateStores }, { on := 6, ground := Ground.textOnly Departure.lateStoresUnsure }, { on := 7, ground := Ground.textOnly Departure.lateStores }, { on := 8, ground := Ground.textOnly Departure.lateStores }, { on := 9, ground := Ground.phase }], guard := none }) (v := ?_) rfl (by kernel_rfl) (by kernel_rfl) (by kernel_rfl) (fun _ _ _ h => h) (Or.inl ⟨by rfl, ?_⟩) hH1 ?_
  rotate_left
  · intro w' hw'
    obtain ⟨c1, c2, c3, c4⟩ := hw'
    go_simp
    try with_reducible rfl
  try simp only [Act.put, List.setIfInBounds_toArray, List.set_cons_zero, List.set_cons_succ]
  refine wpAnyH_take (i := 11) (oi := { dst := some 6, op := Op.assign (Operand.tmp 18), type := 4, pos := "parse.go:66", after := #[{ on := 8, ground := Ground.data }, { on := 10, ground := Ground.chain }, { on := 0, ground := Ground.phase }, { on := 1, ground := Ground.phase }, { on := 2, ground := Ground.phase }, { on := 3, ground := Ground.phase }, { on := 4, ground := Ground.phase }, { on := 5, ground := Ground.phase }, { on := 6, ground := Ground.phase }, { on := 7, ground := Ground.phase }, { on := 8, ground := Ground.phase }, { on := 9, ground := Ground.phase }, { on := 10, ground := Ground.phase }], guard := none }) (v := ?_) rfl (by kernel_rfl) (by kernel_rfl) (by kernel_rfl) (fun _ _ _ h => h) (Or.inl ⟨by rfl, ?_⟩) hH1 ?_
  rotate_left
  · intro w' hw'
    obtain ⟨c1, c2, c3, c4⟩ := hw'
    go_simp
    try with_reducible rfl
  try simp only [Act.put, List.setIfInBounds_toArray, List.set_cons_zero, List.set_cons_succ]
  refine wpAnyH_done (by kernel_rfl) ?_ _
  refine NoPanic.normal ?_
  exact h.out
set_option maxHeartbeats 8000000 in
set_option maxRecDepth 100000 in
theorem reg37f (w w' : World) (n g g2 a : Nat) (s : ByteArray) (k : Int) (sx : S4) (l : Value) (mn mx : Int) (b : Bool) (hb : ((a : Int) == (s.size : Int)) = b) (d1 : w.cell? ⟨n + 1, 0, none⟩ = some (.int .i64 (a : Int))) (d2 : w.cell? ⟨n + 3, 0, none⟩ = some (.bool false)) (d3 : w.cell? ⟨n, 0, none⟩ = some (.string s)) (d4 : ∀ m, (loadVar 27 ⟨g2, 0, none⟩).run Tryz.prog (w.drewN m) = .ok (reV k sx l mn mx) (w.drewN m)) (d5 : (storeVar 27 ⟨g, 0, none⟩ (reV k sx l mn mx)).run Tryz.prog w.drew = .ok () w') (e1 : w'.cell? ⟨n + 1, 0, none⟩ = some (.int .i64 (a : Int))) (e2 : w'.cell? ⟨n + 3, 0, none⟩ = some (.bool false)) (e3 : w'.cell? ⟨n, 0, none⟩ = some (.string s)) (e4 : (loadVar 27 ⟨g2, 0, none⟩).run Tryz.prog w' = .ok (reV k sx l mn mx) w')
    (u5 u6 u8 u9 u10 u11 u12 u13 u14 u15 u16 u17 u18 : Value) (Q : Exit → Act → World → Prop) (h : Q .normal { tmps := (List.toArray ((.pointer (some ⟨n + 4, 0, none⟩) :: .pointer (some ⟨n + 1, 0, none⟩) :: .pointer (some ⟨n + 3, 0, none⟩) :: .pointer (some ⟨n, 0, none⟩) :: .pointer (some ⟨g, 0, none⟩) :: .int .i64 (a : Int) :: .bool false :: .pointer (some ⟨g2, 0, none⟩) :: u8 :: u9 :: reV k sx l mn mx :: .int .i64 (a : Int) :: .bool false :: .bool false :: undef :: undef :: undef :: undef :: .bool false :: []) : List Value)), defers := [] } w') :
    (Code.region 2 #[{ dst := some 10, op := Op.load 27 (Operand.tmp 7), type := 27, pos := "parse.go:66", after := #[], guard := none }, { dst := some 11, op := Op.load 3 (Operand.tmp 1), type := 3, pos := "parse.go:66", after := #[{ on := 9, ground := Ground.gcOnly Departure.lateStores }], guard := none }, { dst := some 12, op := Op.load 4 (Operand.tmp 2), type := 4, pos := "parse.go:66", after := #[], guard := none }, { dst := some 13, op := Op.move (Operand.tmp 12), type := 4, pos := "parse.go:66", after := #[{ on := 2, ground := Ground.data }], guard := none }, { dst := some 14, op := Op.load 3 (Operand.tmp 1), type := 3, pos := "parse.go:66", after := #[{ on := 3, ground := Ground.guard }, { on := 10, ground := Ground.gcOnly Departure.lateStores }], guard := some (3, true) }, { dst := some 15, op := Op.load 9 (Operand.tmp 3), type := 9, pos := "parse.go:66", after := #[{ on := 3, ground := Ground.guard }], guard := some (3, true) }, { dst := some 16, op := Op.call { callee := Callee.builtin Builtin.len, args := #[Operand.tmp 15], argTypes := #[9] }, type := 3, pos := "parse.go:66", after := #[{ on := 5, ground := Ground.data }, { on := 3, ground := Ground.guard }], guard := some (3, true) }, { dst := some 17, op := Op.binOp BinOp.eql 3 (Operand.tmp 14) (Operand.tmp 16) 3, type := 4, pos := "parse.go:66", after := #[{ on := 4, ground := Ground.data }, { on := 6, ground := Ground.data }, { on := 3, ground := Ground.guard }, { on := 10, ground := Ground.gcOnly Departure.lateStores }], guard := some (3, true) }, { dst := some 18, op := Op.pick (Operand.tmp 13) (Operand.tmp 17) (Operand.const (Value.bool false)), type := 4, pos := "parse.go:66", after := #[{ on := 3, ground := Ground.data }, { on := 7, ground := Ground.data }, { on := 10, ground := Ground.gcOnly Departure.lateStores }], guard := none }, { dst := none, op := Op.store 27 (Operand.tmp 4) (Operand.tmp 10), type := 0, pos := "parse.go:66", after := #[{ on := 0, ground := Ground.data }, { on := 3, ground := Ground.chain }, { on := 0, ground := Ground.phase }, { on := 1, ground := Ground.textOnly Departure.lateStores }, { on := 2, ground := Ground.textOnly Departure.lateStores }, { on := 3, ground := Ground.textOnly Departure.lateStores }, { on := 4, ground := Ground.textOnly Departure.lateStores }, { on := 5, ground := Ground.textOnly Departure.lateStores }, { on := 6, ground := Ground.textOnly Departure.lateStoresUnsure }, { on := 7, ground := Ground.textOnly Departure.lateStores }, { on := 8, ground := Ground.textOnly Departure.lateStores }], guard := none }, { dst := some 5, op := Op.assign (Operand.tmp 11), type := 3, pos := "parse.go:66", after := #[{ on := 1, ground := Ground.data }, { on := 9, ground := Ground.chain }, { on := 0, ground := Ground.phase }, { on := 1, ground := Ground.phase }, { on := 2, ground := Ground.textOnly Departure.lateStores }, { on := 3, ground := Ground.textOnly Departure.lateStores }, { on := 4, ground := Ground.textOnly Departure.lateStores }, { on := 5, ground := Ground.textOnly Departure.lateStores }, { on := 6, ground := Ground.textOnly Departure.lateStoresUnsure }, { on := 7, ground := Ground.textOnly Departure.lateStores }, { on := 8, ground := Ground.textOnly Departure.lateStores }, { on := 9, ground := Ground.phase }], guard := none }, { dst := some 6, op := Op.assign (Operand.tmp 18), type := 4, pos := "parse.go:66", after := #[{ on := 8, ground := Ground.data }, { on := 10, ground := Ground.chain }, { on := 0, ground := Ground.phase }, { on := 1, ground := Ground.phase }, { on := 2, ground := Ground.phase }, { on := 3, ground := Ground.phase }, { on := 4, ground := Ground.phase }, { on := 5, ground := Ground.phase }, { on := 6, ground := Ground.phase }, { on := 7, ground := Ground.phase }, { on := 8, ground := Ground.phase }, { on := 9, ground := Ground.phase }, { on := 10, ground := Ground.phase }], guard := none }] true).wp Tryz.prog Q { tmps := (List.toArray ((.pointer (some ⟨n + 4, 0, none⟩) :: .pointer (some ⟨n + 1, 0, none⟩) :: .pointer (some ⟨n + 3, 0, none⟩) :: .pointer (some ⟨n, 0, none⟩) :: .pointer (some ⟨g, 0, none⟩) :: u5 :: u6 :: .pointer (some ⟨g2, 0, none⟩) :: u8 :: u9 :: u10 :: u11 :: u12 :: u13 :: u14 :: u15 :: u16 :: u17 :: u18 :: []) : List Value)), defers := [] } w := by
  replace h := hide h
  refine wp_region_noPanic ?_
  refine wp_region_held_drew (S := (fun w' => w'.cell? ⟨n + 1, 0, none⟩ = some (.int .i64 (a : Int)) ∧ w'.cell? ⟨n + 3, 0, none⟩ = some (.bool false) ∧ w'.cell? ⟨n, 0, none⟩ = some (.string s) ∧ (loadVar 27 ⟨g2, 0, none⟩).run Tryz.prog w' = .ok (reV k sx l mn mx) w')) (by kernel_rfl) ⟨d1, d2, d3, d4 1⟩ (fun hH0 => ?_)
  refine wpAnyH_take (i := 0) (oi := { dst := some 10, op := Op.load 27 (Operand.tmp 7), type := 27, pos := "parse.go:66", after := #[], guard := none }) (v := reV k sx l mn mx) rfl (by kernel_rfl) (by kernel_rfl) (by kernel_rfl) (fun _ _ _ h => h) (Or.inl ⟨by rfl, fun w' hw' => run_ld28 rfl hw'.2.2.2⟩) hH0 ?_
  try simp only [Act.put, List.setIfInBounds_toArray, List.set_cons_zero, List.set_cons_succ]
  refine wpAnyH_take (i := 1) (oi := { dst := some 11, op := Op.load 3 (Operand.tmp 1), type := 3, pos := "parse.go:66", after := #[{ on := 9, ground := Ground.gcOnly Departure.lateStores }], guard := none }) (v := ?_) rfl (by kernel_rfl) (by kernel_rfl) (by kernel_rfl) (fun _ _ _ h => h) (Or.inl ⟨by rfl, ?_⟩) hH0 ?_
  rotate_left
  · intro w' hw'
    obtain ⟨c1, c2, c3, c4⟩ := hw'
    go_simp
    try with_reducible rfl
  try simp only [Act.put, List.setIfInBounds_toArray, List.set_cons_zero, List.set_cons_succ]
  refine wpAnyH_take (i := 2) (oi := { dst := some 12, op := Op.load 4 (Operand.tmp 2), type := 4, pos := "parse.go:66", after := #[], guard := none }) (v := ?_) rfl (by kernel_rfl) (by kernel_rfl) (by kernel_rfl) (fun _ _ _ h => h) (Or.inl ⟨by rfl, ?_⟩) hH0 ?_
  rotate_left
  · intro w' hw'
    obtain ⟨c1, c2, c3, c4⟩ := hw'
    go_simp
    try with_reducible rfl
  try simp only [Act.put, List.setIfInBounds_toArray, List.set_cons_zero, List.set_cons_succ]
  refine wpAnyH_take (i := 3) (oi := { dst := some 13, op := Op.move (Operand.tmp 12), type := 4, pos := "parse.go:66", after := #[{ on := 2, ground := Ground.data }], guard := none }) (v := ?_) rfl (by kernel_rfl) (by kernel_rfl) (by kernel_rfl) (fun _ _ _ h => h) (Or.inl ⟨by rfl, ?_⟩) hH0 ?_
  rotate_left
  · intro w' hw'
    obtain ⟨c1, c2, c3, c4⟩ := hw'
    go_simp
    try with_reducible rfl
  try simp only [Act.put, List.setIfInBounds_toArray, List.set_cons_zero, List.set_cons_succ]
  refine wpAnyH_take (i := 4) (oi := { dst := some 14, op := Op.load 3 (Operand.tmp 1), type := 3, pos := "parse.go:66", after := #[{ on := 3, ground := Ground.guard }, { on := 10, ground := Ground.gcOnly Departure.lateStores }], guard := some (3, true) }) (v := undef) rfl (by kernel_rfl) (by kernel_rfl) (by kernel_rfl) (fun _ _ _ h => h) (Or.inr ⟨by rfl, rfl⟩) hH0 ?_
  try simp only [Act.put, List.setIfInBounds_toArray, List.set_cons_zero, List.set_cons_succ]
  refine wpAnyH_take (i := 5) (oi := { dst := some 15, op := Op.load 9 (Operand.tmp 3), type := 9, pos := "parse.go:66", after := #[{ on := 3, ground := Ground.guard }], guard := some (3, true) }) (v := undef) rfl (by kernel_rfl) (by kernel_rfl) (by kernel_rfl) (fun _ _ _ h => h) (Or.inr ⟨by rfl, rfl⟩) hH0 ?_
  try simp only [Act.put, List.setIfInBounds_toArray, List.set_cons_zero, List.set_cons_succ]
  refine wpAnyH_take (i := 6) (oi := { dst := some 16, op := Op.call { callee := Callee.builtin Builtin.len, args := #[Operand.tmp 15], argTypes := #[9] }, type := 3, pos := "parse.go:66", after := #[{ on := 5, ground := Ground.data }, { on := 3, ground := Ground.guard }], guard := some (3, true) }) (v := undef) rfl (by kernel_rfl) (by kernel_rfl) (by kernel_rfl) (fun _ _ _ h => h) (Or.inr ⟨by rfl, rfl⟩) hH0 ?_
  try simp only [Act.put, List.setIfInBounds_toArray, List.set_cons_zero, List.set_cons_succ]
  refine wpAnyH_take (i := 7) (oi := { dst := some 17, op := Op.binOp BinOp.eql 3 (Operand.tmp 14) (Operand.tmp 16) 3, type := 4, pos := "parse.go:66", after := #[{ on := 4, ground := Ground.data }, { on := 6, ground := Ground.data }, { on := 3, ground := Ground.guard }, { on := 10, ground := Ground.gcOnly Departure.lateStores }], guard := some (3, true) }) (v := undef) rfl (by kernel_rfl) (by kernel_rfl) (by kernel_rfl) (fun _ _ _ h => h) (Or.inr ⟨by rfl, rfl⟩) hH0 ?_
  try simp only [Act.put, List.setIfInBounds_toArray, List.set_cons_zero, List.set_cons_succ]
  refine wpAnyH_take (i := 8) (oi := { dst := some 18, op := Op.pick (Operand.tmp 13) (Operand.tmp 17) (Operand.const (Value.bool false)), type := 4, pos := "parse.go:66", after := #[{ on := 3, ground := Ground.data }, { on := 7, ground := Ground.data }, { on := 10, ground := Ground.gcOnly Departure.lateStores }], guard := none }) (v := ?_) rfl (by kernel_rfl) (by kernel_rfl) (by kernel_rfl) (fun _ _ _ h => h) (Or.inl ⟨by rfl, ?_⟩) hH0 ?_
  rotate_left
  · intro w' hw'
    obtain ⟨c1, c2, c3, c4⟩ := hw'
    go_simp
    try with_reducible rfl
  try simp only [Act.put, List.setIfInBounds_toArray, List.set_cons_zero, List.set_cons_succ]
  refine wpAnyH_ready (rs := [9]) (by kernel_rfl) (by simp) ?_
  refine AllReadyH.cons (o := { dst := none, op := Op.store 27 (Operand.tmp 4) (Operand.tmp 10), type := 0, pos := "parse.go:66", after := #[{ on := 0, ground := Ground.data }, { on := 3, ground := Ground.chain }, { on := 0, ground := Ground.phase }, { on := 1, ground := Ground.textOnly Departure.lateStores }, { on := 2, ground := Ground.textOnly Departure.lateStores }, { on := 3, ground := Ground.textOnly Departure.lateStores }, { on := 4, ground := Ground.textOnly Departure.lateStores }, { on := 5, ground := Ground.textOnly Departure.lateStores }, { on := 6, ground := Ground.textOnly Departure.lateStoresUnsure }, { on := 7, ground := Ground.textOnly Departure.lateStores }, { on := 8, ground := Ground.textOnly Departure.lateStores }], guard := none }) rfl (fun K hK => ?_) AllReadyH.nil
  rw [if_pos (by rfl)]
  refine wp_storeV rfl rfl rfl d5 ?_
  refine hK.out _ _ ⟨e1, e2, e3, e4⟩ (fun hH1 => ?_)
  clear hK
  try simp only [Act.put, List.setIfInBounds_toArray, List.set_cons_zero, List.set_cons_succ]
  refine wpAnyH_take (i := 10) (oi := { dst := some 5, op := Op.assign (Operand.tmp 11), type := 3, pos := "parse.go:66", after := #[{ on := 1, ground := Ground.data }, { on := 9, ground := Ground.chain }, { on := 0, ground := Ground.phase }, { on := 1, ground := Ground.phase }, { on := 2, ground := Ground.textOnly Departure.lateStores }, { on := 3, ground := Ground.textOnly Departure.lateStores }, { on := 4, ground := Ground.textOnly Departure.lateStores }, { on := 5, ground := Ground.textOnly Departure.lateStores }, { on := 6, ground := Ground.textOnly Departure.lateStoresUnsure }, { on := 7, ground := Ground.textOnly Departure.lateStores }, { on := 8, ground := Ground.textOnly Departure.lateStores }, { on := 9, ground := Ground.phase }], guard := none }) (v := ?_) rfl (by kernel_rfl) (by kernel_rfl) (by kernel_rfl) (fun _ _ _ h => h) (Or.inl ⟨by rfl, ?_⟩) hH1 ?_
  rotate_left
  · intro w' hw'
    obtain ⟨c1, c2, c3, c4⟩ := hw'
    go_simp
    try with_reducible rfl
  try simp only [Act.put, List.setIfInBounds_toArray, List.set_cons_zero, List.set_cons_succ]
  refine wpAnyH_take (i := 11) (oi := { dst := some 6, op := Op.assign (Operand.tmp 18), type := 4, pos := "parse.go:66", after := #[{ on := 8, ground := Ground.data }, { on := 10, ground := Ground.chain }, { on := 0, ground := Ground.phase }, { on := 1, ground := Ground.phase }, { on := 2, ground := Ground.phase }, { on := 3, ground := Ground.phase }, { on := 4, ground := Ground.phase }, { on := 5, ground := Ground.phase }, { on := 6, ground := Ground.phase }, { on := 7, ground := Ground.phase }, { on := 8, ground := Ground.phase }, { on := 9, ground := Ground.phase }, { on := 10, ground := Ground.phase }], guard := none }) (v := ?_) rfl (by kernel_rfl) (by kernel_rfl) (by kernel_rfl) (fun _ _ _ h => h) (Or.inl ⟨by rfl, ?_⟩) hH1 ?_
  rotate_left
  · intro w' hw'
    obtain ⟨c1, c2, c3, c4⟩ := hw'
    go_simp
    try with_reducible rfl
  try simp only [Act.put, List.setIfInBounds_toArray, List.set_cons_zero, List.set_cons_succ]
  refine wpAnyH_done (by kernel_rfl) ?_ _
  refine NoPanic.normal ?_
  exact h.out
theorem store28r {w : World} {g : Nat} {n : Int} {s : S4} {l : Value} {mn mx : Int} {n' : Int} {s' : S4} {l' : Value} {mn' mx' : Int} (h : w.heap[g]? = some (.cells (reA n s l mn mx) 27 (0, 0))) (hl : l'.oneCell' = true) : (storeVar 27 ⟨g, 0, none⟩ (reV n' s' l' mn' mx')).run Tryz.prog w = .ok () (w.setRow g (reA n' s' l' mn' mx')) :=
  run_storeVar_row w g 27 27 _ _ h size28 rfl (by have h1 : ∀ k n, (Value.int k n).oneCell' = true := fun _ _ => rfl; simp [reA, hl, h1])
/-- How the last closure ends. -/
def PostP (w : World) (s : ByteArray) (res : Except Nat Tr) (e : Ending) (w' : World) : Prop := ∃ x a' b, e = .returned (.tuple #[x, .int .i64 ((a' : Nat) : Int), .bool b]) ∧ Below w.heap.size w w' ∧ (∃ t, TrV w' (fun b => w.heap.size ≤ b) x t ∧ (match res with
  | .error p => b = false ∧ a' = p
  | .ok t' => b = true ∧ t = t'))
def parseE (s : ByteArray) (r : Out) : Except Nat Tr := match r with
  | .error p => .error p
  | .ok (t, d) => if d = s.size then .ok t else .error d
theorem parseM_eq (s : ByteArray) : parseM s = parseE s (altM (brM s 32) s 0) := rfl
set_option maxHeartbeats 8000000 in
theorem run_any (w0 : World) (n : Nat) (hn : 0 < n) (hw0 : w0.heap.size = n) (s : ByteArray) (hs : s.size ≤ 256) (w : World) (hT : Tab w) (hE : Ev w n s 0 0 true) (hB : Below n w0 w) :
    Calls Tryz.prog 112 #[.pointer (some ⟨n + 4, 0, none⟩), .pointer (some ⟨n + 1, 0, none⟩), .pointer (some ⟨n + 3, 0, none⟩), .pointer (some ⟨n, 0, none⟩)] w (PostP w0 s (parseM s)) := by
  have H : St (S3 n) w w (env n s 0 0 true) := hE.st
  have hE8 := hE.lt
  have PA := hide (fun w hT hE => alt_any n hn s hs 0 (brM s 32) (br_any n hn s hs 32 (Nat.le_refl _)) 97 (by omega) (br_good s 32) w hT 0 (Nat.zero_le _) hE)
  rw [parseM_eq]
  generalize altM (brM s 32) s 0 = rA at PA ⊢
  generalize hres : parseE s rA = res
  replace hres := hide hres
  go_enter Tryz.func112, Tryz.ntmps112
  go_wp2_with (first | (with_reducible refine at_alloc 27 ?_; refine wl_alloc28 H ?_; clear H; intro g w' H q1 q2) | (with_reducible refine at_load 9 ?_; first | (refine wl_ld9 4 0 H rfl rfl rfl ?_)) | (with_reducible refine at_load 3 ?_; first | (refine wl_ld3 1 0 H rfl rfl rfl ?_)) | (with_reducible refine at_load 4 ?_; first | (refine wl_ld4 3 0 H rfl rfl rfl ?_)) | (with_reducible refine at_load 160 ?_; first | (refine wl_ld59 5 0 H rfl rfl rfl ?_; simp only [brF, atF, piF, seF, alF]) | (refine wl_ld59 6 0 H rfl rfl rfl ?_; simp only [brF, atF, piF, seF, alF]) | (refine wl_ld59 7 0 H rfl rfl rfl ?_; simp only [brF, atF, piF, seF, alF]) | (refine wl_ld59 8 0 H rfl rfl rfl ?_; simp only [brF, atF, piF, seF, alF]) | (refine wl_ld59 9 0 H rfl rfl rfl ?_; simp only [brF, atF, piF, seF, alF])))
  have hgl := H.lti 0 rfl
  have hs1 := H.but.size
  refine (PA.out _ (tab_st hT H hn) (St.ev (M := [_]) H)).mono ?_
  rintro e w2 ⟨x, t, a', o', r, rfl, T, E2, B2, A2⟩
  have W2 := St.closure (M := [_]) H B2 (fun i _ h => h) E2
  have hs2 := B2.size
  clear H PA
  have H := St.rebaseE (M := [_]) W2 (fun k => k = g) (fun x hx => by simp only [List.mem_cons, List.not_mem_nil, or_false] at hx; subst hx; rfl)
  obtain ⟨va, vn, vc, hx⟩ := T.val
  subst hx
  go_wp2_with (first | (with_reducible refine at_alloc 27 ?_; refine wl_alloc28 H ?_; clear H; intro g2 w' H q3 q4) | (with_reducible refine at_store 27 ?_; refine wl_store28 0 H rfl rfl rfl rfl ?_; clear H; intro w' H))
  have keep : Hid (∀ w', But (fun k => S3 n k ∨ k = g) w2 w' → TrV w' (fun b => w0.heap.size ≤ b) (reV t.1.k t.1.s (.slice va vn vc) t.1.mn t.1.mx) t) := fun w' hb =>
    ((T.mono (P' := fun b => w0.heap.size ≤ b ∧ b ≠ g ∧ ¬ S3 n b) (fun b hb hP => by simp only [S3]; omega)).kept (fun b hP hl => hb.block b hl (fun h => by rcases h with h | h; exact hP.2.2 h; exact hP.2.1 h))).mono (fun b _ hP => hP.1)
  have fin : Hid (∀ w', But (fun k => S3 n k ∨ k = g) w2 w' → Below w0.heap.size w0 w') := fun w' hb => by
    rw [hw0]
    exact hB.trans ((W2.but.trans hb (fun i hi h => by rcases h with h | h; exact h; omega)).below (by omega) (fun k hk => by simp only [S3] at hk; omega))
  clear T B2 E2 W2
  have H2 := (H.drew).setRow 1 rfl (reA t.1.k t.1.s (.slice va vn vc) t.1.mn t.1.mx)
  have d1 := H.cell 2 0 rfl (v := .int .i64 (a' : Int)) rfl
  have d2 := H.cell 4 0 rfl (v := .bool r) rfl
  have d3 := H.cell 5 0 rfl (v := .string s) rfl
  have d4 := fun m => load28 ((H.drewN m).get 0 rfl)
  have d5 := store28r ((H.drew).get 1 rfl) (n' := t.1.k) (s' := t.1.s) (l' := .slice va vn vc) (mn' := t.1.mn) (mx' := t.1.mx) rfl
  have e1 := H2.cell 2 0 rfl (v := .int .i64 (a' : Int)) rfl
  have e2 := H2.cell 4 0 rfl (v := .bool r) rfl
  have e3 := H2.cell 5 0 rfl (v := .string s) rfl
  have e4 := load28 (H2.get 0 rfl)
  cases r with
  | false =>
    have hr : res = .error a' := by
      cases rA with
      | error p => obtain ⟨-, rfl⟩ := A2; exact hres.out.symm
      | ok td => obtain ⟨t', d⟩ := td; obtain ⟨h, -⟩ := A2; cases h
    refine reg37f _ _ n g g2 a' s t.1.k t.1.s (.slice va vn vc) t.1.mn t.1.mx _ rfl d1 d2 d3 d4 d5 e1 e2 e3 e4 _ _ _ _ _ _ _ _ _ _ _ _ _ _ ?_
    replace d4 := hide d4
    clear d1 d2 d3 d4 d5 e1 e2 e3 e4 hres
    go_wp2_with fail
    refine bodyPost_ret (results_cell2 rfl _ _ _ _ rfl (load28 (H2.get 1 rfl))) rfl ?_
    refine ⟨_, a', false, rfl, fin.out _ H2.but, t, keep.out _ H2.but, ?_⟩
    rw [hr]
    exact ⟨rfl, rfl⟩
  | true =>
    obtain ⟨d, rfl, hdd⟩ : ∃ d, rA = .ok (t, d) ∧ a' = d := by
      cases rA with
      | error p => obtain ⟨h, -⟩ := A2; cases h
      | ok td => obtain ⟨t', d⟩ := td; obtain ⟨-, h2, h3, -⟩ := A2; exact ⟨d, by rw [h3], h2⟩
    subst hdd
    simp only [parseE] at hres
    obtain ⟨b, hb⟩ : ∃ b, ((a' : Int) == (s.size : Int)) = b := ⟨_, rfl⟩
    refine reg37t _ _ n g g2 a' s t.1.k t.1.s (.slice va vn vc) t.1.mn t.1.mx b hb d1 d2 d3 d4 d5 e1 e2 e3 e4 _ _ _ _ _ _ _ _ _ _ _ _ _ _ ?_
    replace d4 := hide d4
    replace hb := hide hb
    clear d1 d2 d3 d4 d5 e1 e2 e3 e4
    go_wp2_with fail
    refine bodyPost_ret (results_cell2 rfl _ _ _ _ rfl (load28 (H2.get 1 rfl))) rfl ?_
    refine ⟨_, a', b, rfl, fin.out _ H2.but, t, keep.out _ H2.but, ?_⟩
    rw [← hres.out]
    by_cases hq : a' = s.size
    · rw [if_pos hq]
      exact ⟨by rw [← hb.out, hq]; simp, rfl⟩
    · rw [if_neg hq]
      exact ⟨by rw [← hb.out]; exact beq_eq_false_iff_ne.2 (by omega), rfl⟩

open Go.RowKit
set_option linter.unusedVariables false
set_option linter.unusedSimpArgs false

def zeroRe : Value := reV 0 noSet (.slice none 0 0) 0 0
/-- What Parse answers. -/
def ParseP (w : World) (s : ByteArray) (e : Ending) (w' : World) : Prop := Below w.heap.size w w' ∧
  ((256 < s.size ∧ e = .returned (.tuple #[zeroRe, .int .i64 0, .int .i64 3])) ∨
   (s.size ≤ 256 ∧ ((∃ p, parseM s = .error p ∧ e = .returned (.tuple #[zeroRe, .int .i64 (p : Int), .int .i64 100])) ∨
     (∃ x t, parseM s = .ok t ∧ e = .returned (.tuple #[x, .int .i64 0, .int .i64 0]) ∧ TrV w' (fun b => w.heap.size ≤ b) x t))))
set_option maxHeartbeats 8000000 in
theorem parse_any (s : ByteArray) (w : World) (hT : Tab w) : Calls Tryz.prog 39 #[.string s] w (ParseP w s) := by
  have H := St.start Nope w
  by_cases h256 : 256 < s.size
  · have i1 : (256 : Int) < (s.size : Int) := by omega
    go_enter Tryz.func39, Tryz.ntmps39
    go_wp2_with (first | (with_reducible refine at_alloc 27 ?_; refine wl_alloc28 H ?_; clear H; intro g w' H q1 q2) | (with_reducible refine at_store 27 ?_; refine wl_store28 0 (n' := 0) (s' := noSet) (l' := .slice none 0 0) (mn' := 0) (mx' := 0) H rfl rfl rfl rfl ?_; clear H; intro w' H))
    refine bodyPost_ret (results_cell2 rfl _ _ _ _ rfl (load28 (H.get 0 rfl))) rfl ?_
    exact ⟨H.below, .inl ⟨h256, rfl⟩⟩
  · have i1 : ¬ ((256 : Int) < (s.size : Int)) := by omega
    have hs : s.size ≤ 256 := by omega
    replace h256 := hide h256
    go_enter Tryz.func39, Tryz.ntmps39
    go_wp2_with (first | (with_reducible refine at_alloc 27 ?_; refine wl_alloc28 H ?_; clear H; intro g w' H q1 q2))
    have hT1 := hT.st H (fun _ _ h => h)
    have hp := hT1.pos
    have hg := H.lti 0 rfl
    generalize hz : w'.heap.size = n at *
    refine (parser_any s w' n hz).mono ?_
    rintro e w1 ⟨rfl, E1, B1⟩
    have hT2 := hT1.kept B1 (by omega)
    have hs1 := E1.lt
    go_wp2_with fail
    refine (run_any w' n (by omega) hz s hs w1 hT2 E1 B1).mono ?_
    rintro e w2 ⟨x, a', b, rfl, B2, t, T, A⟩
    have W2 := H.call B2 (by omega)
    have hs2 := B2.size
    clear H
    have H := W2.rebase (fun k => k = g) (fun x hx _ => by simp only [List.mem_cons, List.not_mem_nil, or_false] at hx; subst hx; rfl)
    obtain ⟨va, vn, vc, hx⟩ := T.val
    subst hx
    have fin : Hid (∀ w', But (fun k => k = g) w2 w' → Below w.heap.size w w') := fun w' hb => (W2.but.trans hb (fun i hi h => by omega)).below (Nat.le_refl _) (fun k hk => hk.elim)
    have hsz0 := W2.but.size
    have keep : Hid (∀ w', But (fun k => k = g) w2 w' → TrV w' (fun b => w.heap.size ≤ b) (reV t.1.k t.1.s (.slice va vn vc) t.1.mn t.1.mx) t) := fun w' hb =>
      ((T.mono (P' := fun b => w.heap.size ≤ b ∧ b ≠ g) (fun b hb hP => by omega)).kept (fun b hP hl => hb.block b hl (fun h => hP.2 h))).mono (fun b _ hP => hP.1)
    clear T W2 B2 B1 E1 hT2 hT1
    cases hR : parseM s with
    | error p =>
      rw [hR] at A
      obtain ⟨rfl, rfl⟩ := A
      go_wp2_with (first | (with_reducible refine at_alloc 27 ?_; refine wl_alloc28 H ?_; clear H; intro g5 w' H q1 q2) | (with_reducible refine at_store 27 ?_; first | (refine wl_store28 0 H rfl rfl rfl rfl ?_; clear H; intro w' H) | (refine wl_store28 1 (n' := 0) (s' := noSet) (l' := .slice none 0 0) (mn' := 0) (mx' := 0) H rfl rfl rfl rfl ?_; clear H; intro w' H)))
      refine bodyPost_ret (results_cell2 rfl _ _ _ _ rfl (load28 (H.get 1 rfl))) rfl ?_
      exact ⟨fin.out _ H.but, .inr ⟨hs, .inl ⟨a', hR, rfl⟩⟩⟩
    | ok t' =>
      rw [hR] at A
      obtain ⟨rfl, rfl⟩ := A
      go_wp2_with (first | (with_reducible refine at_alloc 27 ?_; refine wl_alloc28 H ?_; clear H; intro g5 w' H q1 q2) | (with_reducible refine at_load 27 ?_; refine wl_load28 0 H rfl rfl ?_) | (with_reducible refine at_store 27 ?_; first | (refine wl_store28 0 H rfl rfl rfl rfl ?_; clear H; intro w' H) | (refine wl_store28 1 H rfl rfl rfl rfl ?_; clear H; intro w' H)))
      refine bodyPost_ret (results_cell2 rfl _ _ _ _ rfl (load28 (H.get 1 rfl))) rfl ?_
      exact ⟨fin.out _ H.but, .inr ⟨hs, .inr ⟨_, t, hR, rfl, keep.out _ H.but⟩⟩⟩

/-- The three texts of the chapter's example. -/
def tx1 : ByteArray := ⟨#[97, 124, 98, 42]⟩
def tx2 : ByteArray := ⟨#[97, 42, 42]⟩
def tx3 : ByteArray := ⟨#[91, 98, 45, 97, 93]⟩
def look1 (r : Except Nat Tr) : Bool := match r with
  | .ok (n, .cons _ _ (.cons m _ .nil)) => n.k == 3 && m.k == 4 && m.mx == -1
  | _ => false
def look2 (r : Except Nat Tr) (p : Nat) : Bool := match r with
  | .error q => q == p
  | _ => false
theorem ex1 : look1 (parseM tx1) = true := by decide +kernel
theorem ex2 : look2 (parseM tx2) 2 = true := by decide +kernel
theorem ex3 : look2 (parseM tx3) 1 = true := by decide +kernel
end Go.Proofs.YtkfdikpnnkbgaaaGreatDoor
