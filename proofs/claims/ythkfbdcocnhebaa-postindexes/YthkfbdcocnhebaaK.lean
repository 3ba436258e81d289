/-
  PostGoes: All, Among; the region that compares.
-/
import Derived.Test.YthkfbdcocnhebaaJ
namespace Go.Proofs.Ythkfbdcocnhebaa
open Go.RowKit Go.Shelf
set_option linter.unusedVariables false
set_option linter.unusedSimpArgs false

theorem among_val (x : Int) (n : Nat) (h1 : 1 ≤ n) : 0 ≤ (IntKind.u64.wrap x).tmod (n : Int) ∧ (IntKind.u64.wrap x).tmod (n : Int) < (n : Int) := by
  have h0 : 0 ≤ IntKind.u64.wrap x := by rw [IntKind.wrap_u64]; omega
  rw [Int.tmod_eq_emod_of_nonneg h0]
  exact ⟨Int.emod_nonneg _ (by omega), Int.emod_lt_of_pos _ (by omega)⟩
theorem among_wrap (y : Int) {n : Nat} (v : 0 ≤ y ∧ y < (n : Int)) (h2 : n ≤ 9223372036854775807) : wrap64 y = ((y.toNat : Nat) : Int) := by
  rw [w64 _ (by omega)]; omega
def amg (x : Int) (n : Nat) : Nat := ((IntKind.u64.wrap x).tmod (n : Int)).toNat
theorem amg_lt (x : Int) (n : Nat) (h1 : 1 ≤ n) : amg x n < n := by have := among_val x n h1; unfold amg; omega
set_option maxHeartbeats 400000 in
theorem among_any (x : Int) (n : Nat) (hx : -9223372036854775808 ≤ x ∧ x ≤ 9223372036854775807) (h1 : 1 ≤ n) (h2 : n ≤ 9223372036854775807) (w : World) :
    Calls Try.prog 26 #[.int .i64 x, .int .i64 (n : Int)] w fun e w' => e = .returned (.int .i64 (amg x n : Int)) ∧ w' = w := by
  have hn : (1 : Int) ≤ (n : Int) := by omega
  have hn' : (n : Int) ≤ 9223372036854775807 := by omega
  go_enter Try.func26, Try.ntmps26
  go_wp2
  go_ret
  have v := among_val x n h1
  exact ⟨ret_int (among_wrap _ v h2), rfl⟩
theorem among_ex (x : Int) (n : Nat) (N : Int) (hN : N = (n : Int)) (hx : -9223372036854775808 ≤ x ∧ x ≤ 9223372036854775807) (h1 : 1 ≤ n) (h2 : n ≤ 9223372036854775807) : ∃ m : Nat, m < n ∧ ∀ w, Calls Try.prog 26 #[.int .i64 x, .int .i64 N] w fun e w' => e = .returned (.int .i64 (m : Int)) ∧ w' = w := by
  subst hN
  exact ⟨amg x n, amg_lt x n h1, fun w => among_any x n hx h1 h2 w⟩
set_option maxHeartbeats 1000000 in
theorem all_any (w : World) (a : Option Addr) (n c : Nat) (l : List Int) (H : HasU w a n c l) (hn : n ≤ 1000000) : Calls Try.prog 25 #[.slice a n c] w fun e w' => ∃ g a' c', e = .returned (.func (.func 61) #[] #[.pointer (some ⟨g, 0, none⟩)]) ∧ w'.heap[g]? = some (.cells #[.slice a' n c'] 23 (0, 0)) ∧ HasU w' a' n c' l ∧ Below w.heap.size w w' ∧ w.heap.size ≤ g ∧ (0 < n → ∀ k, (Value.slice a' n c').ownBlock = some k → k < w'.heap.size) ∧ (∀ k, (Value.slice a' n c').ownBlock = some k → w.heap.size ≤ k) := by
  have CL := hide (clone_any w a n c l H (by omega))
  have hlen := H.hlen
  clear H
  have hmf : ∀ (fn : Fn) (first cap : Array Value) (w : World), (Instr.makeFunc fn first cap).run Try.prog w = .ok (.func fn first cap) w := fun _ _ _ _ => rfl
  go_enter Try.func25, Try.ntmps25
  go_wp2_with fail
  refine CL.out.mono ?_
  rintro e w2 ⟨a', n', c', rfl, R1, R2, R3⟩
  have hn' : n' = n := by rw [← R1.hlen, hlen]
  subst hn'
  have hB : Below w2.heap.size w2 (w2.alloc (.cells #[.slice a' n' c'] 23)) := (Below.refl _ _).alloc (Nat.le_refl _) _
  have fin : Hid (HasU (w2.alloc (.cells #[.slice a' n' c'] 23)) a' n' c' l ∧ Below w.heap.size w (w2.alloc (.cells #[.slice a' n' c'] 23)) ∧ w.heap.size ≤ w2.heap.size ∧ (0 < n' → ∀ k, (Value.slice a' n' c').ownBlock = some k → k < (w2.alloc (.cells #[.slice a' n' c'] 23)).heap.size)) := ⟨R1.kept hB (Nat.le_refl _), R2.trans (hB.mono R2.size), R2.size, fun hp k hk => by
    obtain ⟨b, off, e1, e2, _⟩ := R1.cells hp
    subst e1
    cases hk
    simp; omega⟩
  have hg := heap_alloc_new w2 (.cells #[.slice a' n' c'] 23)
  replace hg := hide hg
  clear R1 R2 hB
  replace R3 := hide R3
  go_wp2
  go_ret
  exact ⟨_, a', c', rfl, hg.out, fin.out.1, fin.out.2.1, fin.out.2.2.1, fin.out.2.2.2, R3.out⟩
section
variable {w w' : World} {ops : Array Oper} {o : Oper} {a : Act} {Q : Exit → Act → World → Prop} {K : Act → World → Prop} {E : Prop}
theorem step_val2 {v : Value} (hgd : Region.wanted o (yielded ops a.tmps) = true) (hr : (execOp a.eval o).run Try.prog w = .ok (.value v) w') (h : K (a.put o.dst v) w') : if Region.wanted o (yielded ops a.tmps) = true then Oper.wp Try.prog o a w K Q else E := by
  rw [if_pos hgd]
  unfold Oper.wp
  rw [hr]
  exact h
end
theorem ld3 {w : World} {ad : Addr} {v : Value} (h : w.cell? ad = some v) : (loadVar 3 ad).run Try.prog w = .ok v w := by
  have ha : ∀ w, (isAgg 3).run Try.prog w = .ok false w := fun w => by kernel_rfl
  simp [loadVar, ha, go_sem, h]
theorem run_ldx (t : TypeId) {w : World} {dst : Option Nat} {x : Operand} {ty : TypeId} {pos : String} {after : Array Edge} {gd : Option (Nat × Bool)} (ev : Operand → Value) {ad : Addr} {v : Value} (hx : ev x = .pointer (some ad)) (hl : (loadVar t ad).run Try.prog w = .ok v w) : (execOp ev ⟨dst, .load t x, ty, pos, after, gd⟩).run Try.prog w = .ok (.value v) w := by
  unfold execOp
  simp only [hx, Instr.loadAt, Instr.sureAddr, Sem.run_bind, Sem.run_pure, Result.andThen_ok, hl]
theorem run_minx {w : World} {dst : Option Nat} {x y : Operand} {ty : TypeId} {pos : String} {after : Array Edge} (ev : Operand → Value) {n q m : Int} (hx : ev x = .int .i64 n) (hy : ev y = .int .i64 q) (hm : (if q < n then q else n) = m) : (execOp ev ⟨dst, .call { callee := .builtin .min, args := #[x, y], argTypes := #[3, 3] }, ty, pos, after, none⟩).run Try.prog w = .ok (.value (.int .i64 m)) w := by
  simp [execOp, resolve, invoke, builtin, hx, hy, run_min_int2, Result.andThen, hm]
theorem run_h23 (w : World) (a : Option Addr) (len cap sz : Nat) (h : sz ≤ cap) : (Instr.sliceAt 23 (.slice a len cap) none (some (.int .i64 (sz : Int))) none).run Try.prog w = .ok (.slice a sz cap) w := by
  have h1 : ((sz : Nat) : Int) ≤ (cap : Int) := by omega
  have hz : (Try.prog.info? 24).map (·.size) = some 1 := by
    obtain ⟨i0, hi, hz0, hz1, hz2⟩ := info_parts info24
    simp [hi, hz1]
  cases a with
  | none => simp [go_sem, h, h1]
  | some ad =>
    by_cases hc : cap = 0
    · subst hc
      obtain rfl : sz = 0 := by omega
      simp [go_sem, Addr.add]
    · simp [go_sem, h, h1, hc, Addr.add]
theorem run_slx {w : World} {dst : Option Nat} {x y : Operand} {ty : TypeId} {pos : String} {after : Array Edge} (ev : Operand → Value) {a : Option Addr} {n c m : Nat} (hx : ev x = .slice a n c) (hy : ev y = .int .i64 (m : Int)) (hm : m ≤ c) : (execOp ev ⟨dst, .slice 23 x none (some y) none, ty, pos, after, none⟩).run Try.prog w = .ok (.value (.slice a m c)) w := by
  unfold execOp
  simp only [hx, hy, Option.map_some, Option.map_none, Sem.run_bind, run_h23 w a n c m hm, Result.andThen_ok, Sem.run_pure]
set_option maxHeartbeats 4000000 in
set_option maxRecDepth 100000 in
theorem reg4_11 (w : World) (q p6 p7 : Nat) (a : Option Addr) (n c m : Nat) (stop : Int) (X6 X7 : Value) (hst : 0 ≤ stop ∧ stop < 70) (e1 : (if IntKind.i64.wrap (stop + 1) < (n : Int) then IntKind.i64.wrap (stop + 1) else (n : Int)) = (m : Int)) (i2 : m ≤ c) (c3 : w.drew.cell? ⟨q, 0, none⟩ = some (.int .i64 stop)) (c6 : w.drew.cell? ⟨p6, 0, none⟩ = some X6)
    (u1 u2 u4 u5 u8 u9 u10 u11 u12 u13 u14 u15 u16 u17 u18 u19 u20 u21 u22 u23 u24 u25 u26 u27 u28 u29 u30 u31 u32 u33 u34 u35 u36 u37 u38 u39 u40 : Value) (Q : Exit → Act → World → Prop)
    (h : Calls Try.prog 14 #[X6, .slice a m c] w.drew fun e w4 => e = .returned (.bool true) ∧ w4.cell? ⟨p7, 0, none⟩ = some X7 ∧ Calls Try.prog 14 #[X7, .slice a n c] w4 fun e w5 => e = .returned (.bool true) ∧ Q .normal { tmps := (List.toArray ((.slice a n c :: u1 :: u2 :: .pointer (some ⟨q, 0, none⟩) :: .bool true :: u5 :: .pointer (some ⟨p6, 0, none⟩) :: .pointer (some ⟨p7, 0, none⟩) :: u8 :: u9 :: u10 :: u11 :: u12 :: u13 :: u14 :: u15 :: u16 :: u17 :: u18 :: u19 :: u20 :: u21 :: u22 :: u23 :: u24 :: u25 :: u26 :: X6 :: .slice a n c :: .slice a n c :: .int .i64 (n : Int) :: .int .i64 stop :: .int .i64 (IntKind.i64.wrap (stop + 1)) :: .int .i64 (m : Int) :: .slice a m c :: .bool true :: .bool true :: X7 :: .slice a n c :: .bool true :: .bool true :: []) : List Value)), defers := [] } w5) :
    (Code.region 11 #[{ dst := some 27, op := Op.load 23 (Operand.tmp 6), type := 23, pos := "law.go:90", after := #[], guard := none }, { dst := some 28, op := Op.move (Operand.tmp 0), type := 23, pos := "law.go:90", after := #[], guard := none }, { dst := some 29, op := Op.move (Operand.tmp 0), type := 23, pos := "law.go:90", after := #[], guard := none }, { dst := some 30, op := Op.call { callee := Callee.builtin Builtin.len, args := #[Operand.tmp 29], argTypes := #[23] }, type := 3, pos := "law.go:90", after := #[{ on := 2, ground := Ground.data }], guard := none }, { dst := some 31, op := Op.load 3 (Operand.tmp 3), type := 3, pos := "law.go:90", after := #[], guard := none }, { dst := some 32, op := Op.binOp BinOp.add 3 (Operand.tmp 31) (Operand.const (Value.int IntKind.i64 1)) 3, type := 3, pos := "law.go:90", after := #[{ on := 4, ground := Ground.data }], guard := none }, { dst := some 33, op := Op.call { callee := Callee.builtin Builtin.min, args := #[Operand.tmp 30, Operand.tmp 32], argTypes := #[3, 3] }, type := 3, pos := "law.go:90", after := #[{ on := 3, ground := Ground.data }, { on := 5, ground := Ground.data }], guard := none }, { dst := some 34, op := Op.slice 23 (Operand.tmp 28) none (some (Operand.tmp 33)) none, type := 23, pos := "law.go:90", after := #[{ on := 1, ground := Ground.data }, { on := 6, ground := Ground.data }], guard := none }, { dst := some 35, op := Op.call { callee := Callee.value (Operand.func 14), args := #[Operand.tmp 27, Operand.tmp 34], argTypes := #[23, 23] }, type := 4, pos := "law.go:90", after := #[{ on := 0, ground := Ground.data }, { on := 7, ground := Ground.data }], guard := none }, { dst := some 36, op := Op.move (Operand.tmp 35), type := 4, pos := "law.go:90", after := #[{ on := 8, ground := Ground.data }, { on := 8, ground := Ground.chain }], guard := none }, { dst := some 37, op := Op.load 23 (Operand.tmp 7), type := 23, pos := "law.go:90", after := #[{ on := 9, ground := Ground.guard }], guard := some (9, true) }, { dst := some 38, op := Op.move (Operand.tmp 0), type := 23, pos := "law.go:90", after := #[{ on := 9, ground := Ground.guard }], guard := some (9, true) }, { dst := some 39, op := Op.call { callee := Callee.value (Operand.func 14), args := #[Operand.tmp 37, Operand.tmp 38], argTypes := #[23, 23] }, type := 4, pos := "law.go:90", after := #[{ on := 10, ground := Ground.data }, { on := 11, ground := Ground.data }, { on := 9, ground := Ground.chain }, { on := 9, ground := Ground.guard }], guard := some (9, true) }, { dst := some 40, op := Op.pick (Operand.tmp 36) (Operand.tmp 39) (Operand.const (Value.bool false)), type := 4, pos := "law.go:90", after := #[{ on := 9, ground := Ground.data }, { on := 12, ground := Ground.data }], guard := none }, { dst := some 4, op := Op.assign (Operand.tmp 40), type := 4, pos := "law.go:90", after := #[{ on := 13, ground := Ground.data }, { on := 12, ground := Ground.chain }, { on := 0, ground := Ground.phase }, { on := 1, ground := Ground.phase }, { on := 2, ground := Ground.phase }, { on := 3, ground := Ground.phase }, { on := 4, ground := Ground.phase }, { on := 5, ground := Ground.phase }, { on := 6, ground := Ground.phase }, { on := 7, ground := Ground.phase }, { on := 8, ground := Ground.phase }, { on := 9, ground := Ground.phase }, { on := 10, ground := Ground.phase }, { on := 11, ground := Ground.phase }, { on := 12, ground := Ground.phase }, { on := 13, ground := Ground.phase }], guard := none }] true).wp Try.prog Q { tmps := (List.toArray ((.slice a n c :: u1 :: u2 :: .pointer (some ⟨q, 0, none⟩) :: u4 :: u5 :: .pointer (some ⟨p6, 0, none⟩) :: .pointer (some ⟨p7, 0, none⟩) :: u8 :: u9 :: u10 :: u11 :: u12 :: u13 :: u14 :: u15 :: u16 :: u17 :: u18 :: u19 :: u20 :: u21 :: u22 :: u23 :: u24 :: u25 :: u26 :: u27 :: u28 :: u29 :: u30 :: u31 :: u32 :: u33 :: u34 :: u35 :: u36 :: u37 :: u38 :: u39 :: u40 :: []) : List Value)), defers := [] } w := by
  replace e1 := hide e1
  replace i2 := hide i2
  replace h := hide h
  refine wp_region_noPanic ?_
  refine wp_region_any (by kernel_rfl) ?_
  change wpAny _ _ _ _ _ _ _ (World.drew w)
  refine wpAny_take (i := 1) (oi := { dst := some 28, op := Op.move (Operand.tmp 0), type := 23, pos := "law.go:90", after := #[], guard := none }) (v := ?_) rfl (by kernel_rfl) (by kernel_rfl) (by kernel_rfl) (fun _ _ _ h => h) (Or.inl ⟨by rfl, ?_⟩) ?_
  rotate_left
  · intro w'
    go_simp
    try with_reducible rfl
  try simp only [Act.put, List.setIfInBounds_toArray, List.set_cons_zero, List.set_cons_succ]
  refine wpAny_take (i := 2) (oi := { dst := some 29, op := Op.move (Operand.tmp 0), type := 23, pos := "law.go:90", after := #[], guard := none }) (v := ?_) rfl (by kernel_rfl) (by kernel_rfl) (by kernel_rfl) (fun _ _ _ h => h) (Or.inl ⟨by rfl, ?_⟩) ?_
  rotate_left
  · intro w'
    go_simp
    try with_reducible rfl
  try simp only [Act.put, List.setIfInBounds_toArray, List.set_cons_zero, List.set_cons_succ]
  refine wpAny_take (i := 3) (oi := { dst := some 30, op := Op.call { callee := Callee.builtin Builtin.len, args := #[Operand.tmp 29], argTypes := #[23] }, type := 3, pos := "law.go:90", after := #[{ on := 2, ground := Ground.data }], guard := none }) (v := ?_) rfl (by kernel_rfl) (by kernel_rfl) (by kernel_rfl) (fun _ _ _ h => h) (Or.inl ⟨by rfl, ?_⟩) ?_
  rotate_left
  · intro w'
    go_simp
    try with_reducible rfl
  try simp only [Act.put, List.setIfInBounds_toArray, List.set_cons_zero, List.set_cons_succ]
  refine wpAny_ready (rs := [0, 4]) (by kernel_rfl) (by simp) ?_
  refine (AllReady.cons (o := { dst := some 27, op := Op.load 23 (Operand.tmp 6), type := 23, pos := "law.go:90", after := #[], guard := none }) rfl (fun K0 hK0 => ?_) (AllReady.cons (o := { dst := some 31, op := Op.load 3 (Operand.tmp 3), type := 3, pos := "law.go:90", after := #[], guard := none }) rfl (fun K4 hK4 => ?_) AllReady.nil))
  · refine step_val2 (by rfl) (run_ldx 23 _ rfl (ld23 c6)) ?_
    refine hK0 _ _ ?_
    clear hK0 K0
    try simp only [Act.put, List.setIfInBounds_toArray, List.set_cons_zero, List.set_cons_succ]
    refine wpAny_ready (rs := [4]) (by kernel_rfl) (by simp) ?_
    refine (AllReady.cons (o := { dst := some 31, op := Op.load 3 (Operand.tmp 3), type := 3, pos := "law.go:90", after := #[], guard := none }) rfl (fun K4 hK4 => ?_) AllReady.nil)
    refine step_val2 (by rfl) (run_ldx 3 _ rfl (ld3 c3)) ?_
    refine hK4 _ _ ?_
    clear hK4 K4
    try simp only [Act.put, List.setIfInBounds_toArray, List.set_cons_zero, List.set_cons_succ]
    refine wpAny_take (i := 5) (oi := { dst := some 32, op := Op.binOp BinOp.add 3 (Operand.tmp 31) (Operand.const (Value.int IntKind.i64 1)) 3, type := 3, pos := "law.go:90", after := #[{ on := 4, ground := Ground.data }], guard := none }) (v := ?_) rfl (by kernel_rfl) (by kernel_rfl) (by kernel_rfl) (fun _ _ _ h => h) (Or.inl ⟨by rfl, ?_⟩) ?_
    rotate_left
    · intro w'
      go_simp
      try with_reducible rfl
    try simp only [Act.put, List.setIfInBounds_toArray, List.set_cons_zero, List.set_cons_succ]
    refine wpAny_ready (rs := [6]) (by kernel_rfl) (by simp) ?_
    refine (AllReady.cons (o := { dst := some 33, op := Op.call { callee := Callee.builtin Builtin.min, args := #[Operand.tmp 30, Operand.tmp 32], argTypes := #[3, 3] }, type := 3, pos := "law.go:90", after := #[{ on := 3, ground := Ground.data }, { on := 5, ground := Ground.data }], guard := none }) rfl (fun K6 hK6 => ?_) AllReady.nil)
    refine step_val2 (by rfl) (run_minx _ rfl rfl e1.out) ?_
    refine hK6 _ _ ?_
    clear hK6 K6
    try simp only [Act.put, List.setIfInBounds_toArray, List.set_cons_zero, List.set_cons_succ]
    refine wpAny_ready (rs := [7]) (by kernel_rfl) (by simp) ?_
    refine (AllReady.cons (o := { dst := some 34, op := Op.slice 23 (Operand.tmp 28) none (some (Operand.tmp 33)) none, type := 23, pos := "law.go:90", after := #[{ on := 1, ground := Ground.data }, { on := 6, ground := Ground.data }], guard := none }) rfl (fun K7 hK7 => ?_) AllReady.nil)
    refine step_val2 (by rfl) (run_slx _ rfl rfl i2.out) ?_
    refine hK7 _ _ ?_
    clear hK7 K7
    try simp only [Act.put, List.setIfInBounds_toArray, List.set_cons_zero, List.set_cons_succ]
    refine wpAny_ready (rs := [8]) (by kernel_rfl) (by simp) ?_
    refine (AllReady.cons (o := { dst := some 35, op := Op.call { callee := Callee.value (Operand.func 14), args := #[Operand.tmp 27, Operand.tmp 34], argTypes := #[23, 23] }, type := 4, pos := "law.go:90", after := #[{ on := 0, ground := Ground.data }, { on := 7, ground := Ground.data }], guard := none }) rfl (fun K8 hK8 => ?_) AllReady.nil)
    go_simp
    refine h.out.mono ?_
    rintro e w4 ⟨rfl, c7, h⟩
    replace h := hide h
    refine hK8 _ _ ?_
    clear hK8 K8
    try simp only [Act.put, List.setIfInBounds_toArray, List.set_cons_zero, List.set_cons_succ]
    refine wpAny_take (i := 9) (oi := { dst := some 36, op := Op.move (Operand.tmp 35), type := 4, pos := "law.go:90", after := #[{ on := 8, ground := Ground.data }, { on := 8, ground := Ground.chain }], guard := none }) (v := ?_) rfl (by kernel_rfl) (by kernel_rfl) (by kernel_rfl) (fun _ _ _ h => h) (Or.inl ⟨by rfl, ?_⟩) ?_
    rotate_left
    · intro w'
      go_simp
      try with_reducible rfl
    try simp only [Act.put, List.setIfInBounds_toArray, List.set_cons_zero, List.set_cons_succ]
    refine wpAny_take (i := 11) (oi := { dst := some 38, op := Op.move (Operand.tmp 0), type := 23, pos := "law.go:90", after := #[{ on := 9, ground := Ground.guard }], guard := some (9, true) }) (v := ?_) rfl (by kernel_rfl) (by kernel_rfl) (by kernel_rfl) (fun _ _ _ h => h) (Or.inl ⟨by rfl, ?_⟩) ?_
    rotate_left
    · intro w'
      go_simp
      try with_reducible rfl
    try simp only [Act.put, List.setIfInBounds_toArray, List.set_cons_zero, List.set_cons_succ]
    refine wpAny_ready (rs := [10]) (by kernel_rfl) (by simp) ?_
    refine (AllReady.cons (o := { dst := some 37, op := Op.load 23 (Operand.tmp 7), type := 23, pos := "law.go:90", after := #[{ on := 9, ground := Ground.guard }], guard := some (9, true) }) rfl (fun K10 hK10 => ?_) AllReady.nil)
    refine step_val2 (by rfl) (run_ldx 23 _ rfl (ld23 c7)) ?_
    refine hK10 _ _ ?_
    clear hK10 K10
    try simp only [Act.put, List.setIfInBounds_toArray, List.set_cons_zero, List.set_cons_succ]
    refine wpAny_ready (rs := [12]) (by kernel_rfl) (by simp) ?_
    refine (AllReady.cons (o := { dst := some 39, op := Op.call { callee := Callee.value (Operand.func 14), args := #[Operand.tmp 37, Operand.tmp 38], argTypes := #[23, 23] }, type := 4, pos := "law.go:90", after := #[{ on := 10, ground := Ground.data }, { on := 11, ground := Ground.data }, { on := 9, ground := Ground.chain }, { on := 9, ground := Ground.guard }], guard := some (9, true) }) rfl (fun K12 hK12 => ?_) AllReady.nil)
    go_simp
    refine h.out.mono ?_
    rintro e w5 ⟨rfl, h⟩
    replace h := hide h
    refine hK12 _ _ ?_
    clear hK12 K12
    try simp only [Act.put, List.setIfInBounds_toArray, List.set_cons_zero, List.set_cons_succ]
    refine wpAny_take (i := 13) (oi := { dst := some 40, op := Op.pick (Operand.tmp 36) (Operand.tmp 39) (Operand.const (Value.bool false)), type := 4, pos := "law.go:90", after := #[{ on := 9, ground := Ground.data }, { on := 12, ground := Ground.data }], guard := none }) (v := ?_) rfl (by kernel_rfl) (by kernel_rfl) (by kernel_rfl) (fun _ _ _ h => h) (Or.inl ⟨by rfl, ?_⟩) ?_
    rotate_left
    · intro w'
      go_simp
      try with_reducible rfl
    try simp only [Act.put, List.setIfInBounds_toArray, List.set_cons_zero, List.set_cons_succ]
    refine wpAny_take (i := 14) (oi := { dst := some 4, op := Op.assign (Operand.tmp 40), type := 4, pos := "law.go:90", after := #[{ on := 13, ground := Ground.data }, { on := 12, ground := Ground.chain }, { on := 0, ground := Ground.phase }, { on := 1, ground := Ground.phase }, { on := 2, ground := Ground.phase }, { on := 3, ground := Ground.phase }, { on := 4, ground := Ground.phase }, { on := 5, ground := Ground.phase }, { on := 6, ground := Ground.phase }, { on := 7, ground := Ground.phase }, { on := 8, ground := Ground.phase }, { on := 9, ground := Ground.phase }, { on := 10, ground := Ground.phase }, { on := 11, ground := Ground.phase }, { on := 12, ground := Ground.phase }, { on := 13, ground := Ground.phase }], guard := none }) (v := ?_) rfl (by kernel_rfl) (by kernel_rfl) (by kernel_rfl) (fun _ _ _ h => h) (Or.inl ⟨by rfl, ?_⟩) ?_
    rotate_left
    · intro w'
      go_simp
      try with_reducible rfl
    try simp only [Act.put, List.setIfInBounds_toArray, List.set_cons_zero, List.set_cons_succ]
    refine wpAny_done (by kernel_rfl) ?_ _
    refine NoPanic.normal ?_
    exact h.out
  · refine step_val2 (by rfl) (run_ldx 3 _ rfl (ld3 c3)) ?_
    refine hK4 _ _ ?_
    clear hK4 K4
    try simp only [Act.put, List.setIfInBounds_toArray, List.set_cons_zero, List.set_cons_succ]
    refine wpAny_take (i := 5) (oi := { dst := some 32, op := Op.binOp BinOp.add 3 (Operand.tmp 31) (Operand.const (Value.int IntKind.i64 1)) 3, type := 3, pos := "law.go:90", after := #[{ on := 4, ground := Ground.data }], guard := none }) (v := ?_) rfl (by kernel_rfl) (by kernel_rfl) (by kernel_rfl) (fun _ _ _ h => h) (Or.inl ⟨by rfl, ?_⟩) ?_
    rotate_left
    · intro w'
      go_simp
      try with_reducible rfl
    try simp only [Act.put, List.setIfInBounds_toArray, List.set_cons_zero, List.set_cons_succ]
    refine wpAny_ready (rs := [0, 6]) (by kernel_rfl) (by simp) ?_
    refine (AllReady.cons (o := { dst := some 27, op := Op.load 23 (Operand.tmp 6), type := 23, pos := "law.go:90", after := #[], guard := none }) rfl (fun K0 hK0 => ?_) (AllReady.cons (o := { dst := some 33, op := Op.call { callee := Callee.builtin Builtin.min, args := #[Operand.tmp 30, Operand.tmp 32], argTypes := #[3, 3] }, type := 3, pos := "law.go:90", after := #[{ on := 3, ground := Ground.data }, { on := 5, ground := Ground.data }], guard := none }) rfl (fun K6 hK6 => ?_) AllReady.nil))
    · refine step_val2 (by rfl) (run_ldx 23 _ rfl (ld23 c6)) ?_
      refine hK0 _ _ ?_
      clear hK0 K0
      try simp only [Act.put, List.setIfInBounds_toArray, List.set_cons_zero, List.set_cons_succ]
      refine wpAny_ready (rs := [6]) (by kernel_rfl) (by simp) ?_
      refine (AllReady.cons (o := { dst := some 33, op := Op.call { callee := Callee.builtin Builtin.min, args := #[Operand.tmp 30, Operand.tmp 32], argTypes := #[3, 3] }, type := 3, pos := "law.go:90", after := #[{ on := 3, ground := Ground.data }, { on := 5, ground := Ground.data }], guard := none }) rfl (fun K6 hK6 => ?_) AllReady.nil)
      refine step_val2 (by rfl) (run_minx _ rfl rfl e1.out) ?_
      refine hK6 _ _ ?_
      clear hK6 K6
      try simp only [Act.put, List.setIfInBounds_toArray, List.set_cons_zero, List.set_cons_succ]
      refine wpAny_ready (rs := [7]) (by kernel_rfl) (by simp) ?_
      refine (AllReady.cons (o := { dst := some 34, op := Op.slice 23 (Operand.tmp 28) none (some (Operand.tmp 33)) none, type := 23, pos := "law.go:90", after := #[{ on := 1, ground := Ground.data }, { on := 6, ground := Ground.data }], guard := none }) rfl (fun K7 hK7 => ?_) AllReady.nil)
      refine step_val2 (by rfl) (run_slx _ rfl rfl i2.out) ?_
      refine hK7 _ _ ?_
      clear hK7 K7
      try simp only [Act.put, List.setIfInBounds_toArray, List.set_cons_zero, List.set_cons_succ]
      refine wpAny_ready (rs := [8]) (by kernel_rfl) (by simp) ?_
      refine (AllReady.cons (o := { dst := some 35, op := Op.call { callee := Callee.value (Operand.func 14), args := #[Operand.tmp 27, Operand.tmp 34], argTypes := #[23, 23] }, type := 4, pos := "law.go:90", after := #[{ on := 0, ground := Ground.data }, { on := 7, ground := Ground.data }], guard := none }) rfl (fun K8 hK8 => ?_) AllReady.nil)
      go_simp
      refine h.out.mono ?_
      rintro e w4 ⟨rfl, c7, h⟩
      replace h := hide h
      refine hK8 _ _ ?_
      clear hK8 K8
      try simp only [Act.put, List.setIfInBounds_toArray, List.set_cons_zero, List.set_cons_succ]
      refine wpAny_take (i := 9) (oi := { dst := some 36, op := Op.move (Operand.tmp 35), type := 4, pos := "law.go:90", after := #[{ on := 8, ground := Ground.data }, { on := 8, ground := Ground.chain }], guard := none }) (v := ?_) rfl (by kernel_rfl) (by kernel_rfl) (by kernel_rfl) (fun _ _ _ h => h) (Or.inl ⟨by rfl, ?_⟩) ?_
      rotate_left
      · intro w'
        go_simp
        try with_reducible rfl
      try simp only [Act.put, List.setIfInBounds_toArray, List.set_cons_zero, List.set_cons_succ]
      refine wpAny_take (i := 11) (oi := { dst := some 38, op := Op.move (Operand.tmp 0), type := 23, pos := "law.go:90", after := #[{ on := 9, ground := Ground.guard }], guard := some (9, true) }) (v := ?_) rfl (by kernel_rfl) (by kernel_rfl) (by kernel_rfl) (fun _ _ _ h => h) (Or.inl ⟨by rfl, ?_⟩) ?_
      rotate_left
      · intro w'
        go_simp
        try with_reducible rfl
      try simp only [Act.put, List.setIfInBounds_toArray, List.set_cons_zero, List.set_cons_succ]
      refine wpAny_ready (rs := [10]) (by kernel_rfl) (by simp) ?_
      refine (AllReady.cons (o := { dst := some 37, op := Op.load 23 (Operand.tmp 7), type := 23, pos := "law.go:90", after := #[{ on := 9, ground := Ground.guard }], guard := some (9, true) }) rfl (fun K10 hK10 => ?_) AllReady.nil)
      refine step_val2 (by rfl) (run_ldx 23 _ rfl (ld23 c7)) ?_
      refine hK10 _ _ ?_
      clear hK10 K10
      try simp only [Act.put, List.setIfInBounds_toArray, List.set_cons_zero, List.set_cons_succ]
      refine wpAny_ready (rs := [12]) (by kernel_rfl) (by simp) ?_
      refine (AllReady.cons (o := { dst := some 39, op := Op.call { callee := Callee.value (Operand.func 14), args := #[Operand.tmp 37, Operand.tmp 38], argTypes := #[23, 23] }, type := 4, pos := "law.go:90", after := #[{ on := 10, ground := Ground.data }, { on := 11, ground := Ground.data }, { on := 9, ground := Ground.chain }, { on := 9, ground := Ground.guard }], guard := some (9, true) }) rfl (fun K12 hK12 => ?_) AllReady.nil)
      go_simp
      refine h.out.mono ?_
      rintro e w5 ⟨rfl, h⟩
      replace h := hide h
      refine hK12 _ _ ?_
      clear hK12 K12
      try simp only [Act.put, List.setIfInBounds_toArray, List.set_cons_zero, List.set_cons_succ]
      refine wpAny_take (i := 13) (oi := { dst := some 40, op := Op.pick (Operand.tmp 36) (Operand.tmp 39) (Operand.const (Value.bool false)), type := 4, pos := "law.go:90", after := #[{ on := 9, ground := Ground.data }, { on := 12, ground := Ground.data }], guard := none }) (v := ?_) rfl (by kernel_rfl) (by kernel_rfl) (by kernel_rfl) (fun _ _ _ h => h) (Or.inl ⟨by rfl, ?_⟩) ?_
      rotate_left
      · intro w'
        go_simp
        try with_reducible rfl
      try simp only [Act.put, List.setIfInBounds_toArray, List.set_cons_zero, List.set_cons_succ]
      refine wpAny_take (i := 14) (oi := { dst := some 4, op := Op.assign (Operand.tmp 40), type := 4, pos := "law.go:90", after := #[{ on := 13, ground := Ground.data }, { on := 12, ground := Ground.chain }, { on := 0, ground := Ground.phase }, { on := 1, ground := Ground.phase }, { on := 2, ground := Ground.phase }, { on := 3, ground := Ground.phase }, { on := 4, ground := Ground.phase }, { on := 5, ground := Ground.phase }, { on := 6, ground := Ground.phase }, { on := 7, ground := Ground.phase }, { on := 8, ground := Ground.phase }, { on := 9, ground := Ground.phase }, { on := 10, ground := Ground.phase }, { on := 11, ground := Ground.phase }, { on := 12, ground := Ground.phase }, { on := 13, ground := Ground.phase }], guard := none }) (v := ?_) rfl (by kernel_rfl) (by kernel_rfl) (by kernel_rfl) (fun _ _ _ h => h) (Or.inl ⟨by rfl, ?_⟩) ?_
      rotate_left
      · intro w'
        go_simp
        try with_reducible rfl
      try simp only [Act.put, List.setIfInBounds_toArray, List.set_cons_zero, List.set_cons_succ]
      refine wpAny_done (by kernel_rfl) ?_ _
      refine NoPanic.normal ?_
      exact h.out
    · refine step_val2 (by rfl) (run_minx _ rfl rfl e1.out) ?_
      refine hK6 _ _ ?_
      clear hK6 K6
      try simp only [Act.put, List.setIfInBounds_toArray, List.set_cons_zero, List.set_cons_succ]
      refine wpAny_ready (rs := [0, 7]) (by kernel_rfl) (by simp) ?_
      refine (AllReady.cons (o := { dst := some 27, op := Op.load 23 (Operand.tmp 6), type := 23, pos := "law.go:90", after := #[], guard := none }) rfl (fun K0 hK0 => ?_) (AllReady.cons (o := { dst := some 34, op := Op.slice 23 (Operand.tmp 28) none (some (Operand.tmp 33)) none, type := 23, pos := "law.go:90", after := #[{ on := 1, ground := Ground.data }, { on := 6, ground := Ground.data }], guard := none }) rfl (fun K7 hK7 => ?_) AllReady.nil))
      · refine step_val2 (by rfl) (run_ldx 23 _ rfl (ld23 c6)) ?_
        refine hK0 _ _ ?_
        clear hK0 K0
        try simp only [Act.put, List.setIfInBounds_toArray, List.set_cons_zero, List.set_cons_succ]
        refine wpAny_ready (rs := [7]) (by kernel_rfl) (by simp) ?_
        refine (AllReady.cons (o := { dst := some 34, op := Op.slice 23 (Operand.tmp 28) none (some (Operand.tmp 33)) none, type := 23, pos := "law.go:90", after := #[{ on := 1, ground := Ground.data }, { on := 6, ground := Ground.data }], guard := none }) rfl (fun K7 hK7 => ?_) AllReady.nil)
        refine step_val2 (by rfl) (run_slx _ rfl rfl i2.out) ?_
        refine hK7 _ _ ?_
        clear hK7 K7
        try simp only [Act.put, List.setIfInBounds_toArray, List.set_cons_zero, List.set_cons_succ]
        refine wpAny_ready (rs := [8]) (by kernel_rfl) (by simp) ?_
        refine (AllReady.cons (o := { dst := some 35, op := Op.call { callee := Callee.value (Operand.func 14), args := #[Operand.tmp 27, Operand.tmp 34], argTypes := #[23, 23] }, type := 4, pos := "law.go:90", after := #[{ on := 0, ground := Ground.data }, { on := 7, ground := Ground.data }], guard := none }) rfl (fun K8 hK8 => ?_) AllReady.nil)
        go_simp
        refine h.out.mono ?_
        rintro e w4 ⟨rfl, c7, h⟩
        replace h := hide h
        refine hK8 _ _ ?_
        clear hK8 K8
        try simp only [Act.put, List.setIfInBounds_toArray, List.set_cons_zero, List.set_cons_succ]
        refine wpAny_take (i := 9) (oi := { dst := some 36, op := Op.move (Operand.tmp 35), type := 4, pos := "law.go:90", after := #[{ on := 8, ground := Ground.data }, { on := 8, ground := Ground.chain }], guard := none }) (v := ?_) rfl (by kernel_rfl) (by kernel_rfl) (by kernel_rfl) (fun _ _ _ h => h) (Or.inl ⟨by rfl, ?_⟩) ?_
        rotate_left
        · intro w'
          go_simp
          try with_reducible rfl
        try simp only [Act.put, List.setIfInBounds_toArray, List.set_cons_zero, List.set_cons_succ]
        refine wpAny_take (i := 11) (oi := { dst := some 38, op := Op.move (Operand.tmp 0), type := 23, pos := "law.go:90", after := #[{ on := 9, ground := Ground.guard }], guard := some (9, true) }) (v := ?_) rfl (by kernel_rfl) (by kernel_rfl) (by kernel_rfl) (fun _ _ _ h => h) (Or.inl ⟨by rfl, ?_⟩) ?_
        rotate_left
        · intro w'
          go_simp
          try with_reducible rfl
        try simp only [Act.put, List.setIfInBounds_toArray, List.set_cons_zero, List.set_cons_succ]
        refine wpAny_ready (rs := [10]) (by kernel_rfl) (by simp) ?_
        refine (AllReady.cons (o := { dst := some 37, op := Op.load 23 (Operand.tmp 7), type := 23, pos := "law.go:90", after := #[{ on := 9, ground := Ground.guard }], guard := some (9, true) }) rfl (fun K10 hK10 => ?_) AllReady.nil)
        refine step_val2 (by rfl) (run_ldx 23 _ rfl (ld23 c7)) ?_
        refine hK10 _ _ ?_
        clear hK10 K10
        try simp only [Act.put, List.setIfInBounds_toArray, List.set_cons_zero, List.set_cons_succ]
        refine wpAny_ready (rs := [12]) (by kernel_rfl) (by simp) ?_
        refine (AllReady.cons (o := { dst := some 39, op := Op.call { callee := Callee.value (Operand.func 14), args := #[Operand.tmp 37, Operand.tmp 38], argTypes := #[23, 23] }, type := 4, pos := "law.go:90", after := #[{ on := 10, ground := Ground.data }, { on := 11, ground := Ground.data }, { on := 9, ground := Ground.chain }, { on := 9, ground := Ground.guard }], guard := some (9, true) }) rfl (fun K12 hK12 => ?_) AllReady.nil)
        go_simp
        refine h.out.mono ?_
        rintro e w5 ⟨rfl, h⟩
        replace h := hide h
        refine hK12 _ _ ?_
        clear hK12 K12
        try simp only [Act.put, List.setIfInBounds_toArray, List.set_cons_zero, List.set_cons_succ]
        refine wpAny_take (i := 13) (oi := { dst := some 40, op := Op.pick (Operand.tmp 36) (Operand.tmp 39) (Operand.const (Value.bool false)), type := 4, pos := "law.go:90", after := #[{ on := 9, ground := Ground.data }, { on := 12, ground := Ground.data }], guard := none }) (v := ?_) rfl (by kernel_rfl) (by kernel_rfl) (by kernel_rfl) (fun _ _ _ h => h) (Or.inl ⟨by rfl, ?_⟩) ?_
        rotate_left
        · intro w'
          go_simp
          try with_reducible rfl
        try simp only [Act.put, List.setIfInBounds_toArray, List.set_cons_zero, List.set_cons_succ]
        refine wpAny_take (i := 14) (oi := { dst := some 4, op := Op.assign (Operand.tmp 40), type := 4, pos := "law.go:90", after := #[{ on := 13, ground := Ground.data }, { on := 12, ground := Ground.chain }, { on := 0, ground := Ground.phase }, { on := 1, ground := Ground.phase }, { on := 2, ground := Ground.phase }, { on := 3, ground := Ground.phase }, { on := 4, ground := Ground.phase }, { on := 5, ground := Ground.phase }, { on := 6, ground := Ground.phase }, { on := 7, ground := Ground.phase }, { on := 8, ground := Ground.phase }, { on := 9, ground := Ground.phase }, { on := 10, ground := Ground.phase }, { on := 11, ground := Ground.phase }, { on := 12, ground := Ground.phase }, { on := 13, ground := Ground.phase }], guard := none }) (v := ?_) rfl (by kernel_rfl) (by kernel_rfl) (by kernel_rfl) (fun _ _ _ h => h) (Or.inl ⟨by rfl, ?_⟩) ?_
        rotate_left
        · intro w'
          go_simp
          try with_reducible rfl
        try simp only [Act.put, List.setIfInBounds_toArray, List.set_cons_zero, List.set_cons_succ]
        refine wpAny_done (by kernel_rfl) ?_ _
        refine NoPanic.normal ?_
        exact h.out
      · refine step_val2 (by rfl) (run_slx _ rfl rfl i2.out) ?_
        refine hK7 _ _ ?_
        clear hK7 K7
        try simp only [Act.put, List.setIfInBounds_toArray, List.set_cons_zero, List.set_cons_succ]
        refine wpAny_ready (rs := [0]) (by kernel_rfl) (by simp) ?_
        refine (AllReady.cons (o := { dst := some 27, op := Op.load 23 (Operand.tmp 6), type := 23, pos := "law.go:90", after := #[], guard := none }) rfl (fun K0 hK0 => ?_) AllReady.nil)
        refine step_val2 (by rfl) (run_ldx 23 _ rfl (ld23 c6)) ?_
        refine hK0 _ _ ?_
        clear hK0 K0
        try simp only [Act.put, List.setIfInBounds_toArray, List.set_cons_zero, List.set_cons_succ]
        refine wpAny_ready (rs := [8]) (by kernel_rfl) (by simp) ?_
        refine (AllReady.cons (o := { dst := some 35, op := Op.call { callee := Callee.value (Operand.func 14), args := #[Operand.tmp 27, Operand.tmp 34], argTypes := #[23, 23] }, type := 4, pos := "law.go:90", after := #[{ on := 0, ground := Ground.data }, { on := 7, ground := Ground.data }], guard := none }) rfl (fun K8 hK8 => ?_) AllReady.nil)
        go_simp
        refine h.out.mono ?_
        rintro e w4 ⟨rfl, c7, h⟩
        replace h := hide h
        refine hK8 _ _ ?_
        clear hK8 K8
        try simp only [Act.put, List.setIfInBounds_toArray, List.set_cons_zero, List.set_cons_succ]
        refine wpAny_take (i := 9) (oi := { dst := some 36, op := Op.move (Operand.tmp 35), type := 4, pos := "law.go:90", after := #[{ on := 8, ground := Ground.data }, { on := 8, ground := Ground.chain }], guard := none }) (v := ?_) rfl (by kernel_rfl) (by kernel_rfl) (by kernel_rfl) (fun _ _ _ h => h) (Or.inl ⟨by rfl, ?_⟩) ?_
        rotate_left
        · intro w'
          go_simp
          try with_reducible rfl
        try simp only [Act.put, List.setIfInBounds_toArray, List.set_cons_zero, List.set_cons_succ]
        refine wpAny_take (i := 11) (oi := { dst := some 38, op := Op.move (Operand.tmp 0), type := 23, pos := "law.go:90", after := #[{ on := 9, ground := Ground.guard }], guard := some (9, true) }) (v := ?_) rfl (by kernel_rfl) (by kernel_rfl) (by kernel_rfl) (fun _ _ _ h => h) (Or.inl ⟨by rfl, ?_⟩) ?_
        rotate_left
        · intro w'
          go_simp
          try with_reducible rfl
        try simp only [Act.put, List.setIfInBounds_toArray, List.set_cons_zero, List.set_cons_succ]
        refine wpAny_ready (rs := [10]) (by kernel_rfl) (by simp) ?_
        refine (AllReady.cons (o := { dst := some 37, op := Op.load 23 (Operand.tmp 7), type := 23, pos := "law.go:90", after := #[{ on := 9, ground := Ground.guard }], guard := some (9, true) }) rfl (fun K10 hK10 => ?_) AllReady.nil)
        refine step_val2 (by rfl) (run_ldx 23 _ rfl (ld23 c7)) ?_
        refine hK10 _ _ ?_
        clear hK10 K10
        try simp only [Act.put, List.setIfInBounds_toArray, List.set_cons_zero, List.set_cons_succ]
        refine wpAny_ready (rs := [12]) (by kernel_rfl) (by simp) ?_
        refine (AllReady.cons (o := { dst := some 39, op := Op.call { callee := Callee.value (Operand.func 14), args := #[Operand.tmp 37, Operand.tmp 38], argTypes := #[23, 23] }, type := 4, pos := "law.go:90", after := #[{ on := 10, ground := Ground.data }, { on := 11, ground := Ground.data }, { on := 9, ground := Ground.chain }, { on := 9, ground := Ground.guard }], guard := some (9, true) }) rfl (fun K12 hK12 => ?_) AllReady.nil)
        go_simp
        refine h.out.mono ?_
        rintro e w5 ⟨rfl, h⟩
        replace h := hide h
        refine hK12 _ _ ?_
        clear hK12 K12
        try simp only [Act.put, List.setIfInBounds_toArray, List.set_cons_zero, List.set_cons_succ]
        refine wpAny_take (i := 13) (oi := { dst := some 40, op := Op.pick (Operand.tmp 36) (Operand.tmp 39) (Operand.const (Value.bool false)), type := 4, pos := "law.go:90", after := #[{ on := 9, ground := Ground.data }, { on := 12, ground := Ground.data }], guard := none }) (v := ?_) rfl (by kernel_rfl) (by kernel_rfl) (by kernel_rfl) (fun _ _ _ h => h) (Or.inl ⟨by rfl, ?_⟩) ?_
        rotate_left
        · intro w'
          go_simp
          try with_reducible rfl
        try simp only [Act.put, List.setIfInBounds_toArray, List.set_cons_zero, List.set_cons_succ]
        refine wpAny_take (i := 14) (oi := { dst := some 4, op := Op.assign (Operand.tmp 40), type := 4, pos := "law.go:90", after := #[{ on := 13, ground := Ground.data }, { on := 12, ground := Ground.chain }, { on := 0, ground := Ground.phase }, { on := 1, ground := Ground.phase }, { on := 2, ground := Ground.phase }, { on := 3, ground := Ground.phase }, { on := 4, ground := Ground.phase }, { on := 5, ground := Ground.phase }, { on := 6, ground := Ground.phase }, { on := 7, ground := Ground.phase }, { on := 8, ground := Ground.phase }, { on := 9, ground := Ground.phase }, { on := 10, ground := Ground.phase }, { on := 11, ground := Ground.phase }, { on := 12, ground := Ground.phase }, { on := 13, ground := Ground.phase }], guard := none }) (v := ?_) rfl (by kernel_rfl) (by kernel_rfl) (by kernel_rfl) (fun _ _ _ h => h) (Or.inl ⟨by rfl, ?_⟩) ?_
        rotate_left
        · intro w'
          go_simp
          try with_reducible rfl
        try simp only [Act.put, List.setIfInBounds_toArray, List.set_cons_zero, List.set_cons_succ]
        refine wpAny_done (by kernel_rfl) ?_ _
        refine NoPanic.normal ?_
        exact h.out
end Go.Proofs.Ythkfbdcocnhebaa
