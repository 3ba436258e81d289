/-
  led's iterator: one step of it (a region that draws its order).
-/
import Derived.Test.YtkfdikpnnkbgaaaGreatDoorSK
namespace Go.Proofs.YtkfdikpnnkbgaaaGreatDoor
open Go.RowKit Go.Shelf
set_option linter.unusedVariables false
set_option linter.unusedSimpArgs false
attribute [local go_sem] Oper.semAt_some

theorem ld5 {w : World} {ad : Addr} {v : Value} (h : w.cell? ad = some v) : (loadVar 5 ad).run Tryz.prog w = .ok v w := by
  have ha : ∀ w, (isAgg 5).run Tryz.prog w = .ok false w := fun w => by kernel_rfl
  simp [loadVar, ha, go_sem, h]
theorem ld129 {w : World} {ad : Addr} {v : Value} (h : w.cell? ad = some v) : (loadVar 142 ad).run Tryz.prog w = .ok v w := by
  have ha : ∀ w, (isAgg 142).run Tryz.prog w = .ok false w := fun w => by kernel_rfl
  simp [loadVar, ha, go_sem, h]
section
variable {F : Fence} {n : Nat} {w w' : World} {ops : Array Oper} {o : Oper} {rest : List Oper} {a : Act} {K : Act → World → Prop} {E : Prop} {Q : Exit → Act → World → Prop} {dst : Option Nat} {x y : Operand} {ty : TypeId} {pos : String} {after : Array Edge}
theorem wpI_ldg (t : TypeId) {ad : Addr} {v : Value} (hF : ∀ f, F.fn f) (ho : o.op = .load t x) (hgd : Region.wanted o (yielded ops a.tmps) = true) (hx : a.eval x = .pointer (some ad)) (hl : (loadVar t ad).run Tryz.prog w = .ok v w) (h : K (a.put o.dst v) w) : if Region.wanted o (yielded ops a.tmps) = true then Oper.wpIn F n Tryz.prog o a w K Q else E := by
  rw [if_pos hgd]
  unfold Oper.wpIn
  refine ⟨fun f _ => hF f, ?_⟩
  rw [Oper.semAt_plain F _ _ (fun c hc => by rw [ho] at hc; cases hc)]
  unfold execOp
  simp only [ho, hx, Instr.loadAt, Instr.sureAddr, Sem.run_bind, Sem.run_pure, Result.andThen_ok, hl]
  exact h
theorem wpI_skip (hw : Region.wanted o (yielded ops a.tmps) = false) (hF : ∀ f, F.fn f) (h : K (a.put o.dst undef) w) : if Region.wanted o (yielded ops a.tmps) = true then Oper.wpIn F n Tryz.prog o a w K Q else (∀ f, o.about Tryz.prog w a.eval = some f → F.fn f) ∧ K (a.put o.dst undef) w := by
  rw [if_neg (by simp [hw])]
  exact ⟨fun f _ => hF f, h⟩
end
section
variable {F : Fence} {n : Nat} {P : Program} {ops : Array Oper} {Q : Exit → Act → World → Prop} {md : Region.Mode}
/-- What an operation that defers nothing does, it does in a round too. -/
theorem opIn_inRound {o : Oper} {a : Act} {w : World} {K : Act → World → Prop} (l : Nat) (hd : ∀ c, o.op ≠ .defer c) (h : Oper.wpIn F n P o a w K Q) : Oper.wpIn (F.inRound l) n P o a w K Q := by
  refine ⟨h.1, ?_⟩
  have h2 := h.2
  rw [Oper.semAt_eq _ _ _ hd] at h2 ⊢
  exact h2
theorem anyIn_inRound (l : Nat) (hd : ∀ (j : Nat) (o : Oper), ops[j]? = some o → ∀ c, o.op ≠ .defer c) : ∀ (fuel : Nat) (listed : Array Bool) (a : Act) (w : World), wpAnyIn F n P md ops Q fuel listed a w → wpAnyIn (F.inRound l) n P md ops Q fuel listed a w := by
  intro fuel
  induction fuel with
  | zero => intro listed a w h; exact h
  | succ fuel ih =>
    intro listed a w h
    refine ⟨h.1, fun i hi => ?_⟩
    have h2 := h.2 i hi
    unfold wpOpIn at h2 ⊢
    cases ho : ops[i]? with
    | none => rw [ho] at h2; exact ih _ _ _ h2
    | some o =>
      rw [ho] at h2
      simp only at h2 ⊢
      by_cases hw : Region.wanted o (yielded ops a.tmps) = true
      · rw [if_pos hw] at h2 ⊢
        exact opIn_inRound l (hd i o ho) (Oper.wpIn_mono (fun a w h => ih _ _ _ h) h2)
      · rw [if_neg hw] at h2 ⊢
        exact ⟨h2.1, ih _ _ _ h2.2⟩
end

theorem noDefer (ops : Array Oper) (h : (ops.toList.all fun o => match o.op with | .defer _ => false | _ => true) = true) : ∀ (j : Nat) (o : Oper), ops[j]? = some o → ∀ c, o.op ≠ .defer c := by
  intro j o ho c hc
  have hm : o ∈ ops.toList := by
    have := Array.mem_of_getElem? ho
    simpa using this
  have := List.all_eq_true.1 h o hm
  rw [hc] at this
  cases this
set_option maxHeartbeats 4000000 in
set_option maxRecDepth 100000 in
theorem reg85_a (l0 n0 : Nat) (w : World) (b o gb gy l : Nat) (q : Ins) (bt : Nat) (hC0 : ∀ w', Below w.heap.size w w' → w'.cell? ⟨b, o, none⟩ = some (.int .i64 q.op) ∧ (loadVar 24 ⟨b, o + 1, none⟩).run Tryz.prog w' = .ok (setV q.s) w' ∧ w'.cell? ⟨b, o + 5, none⟩ = some (.int .i64 q.x) ∧ w'.cell? ⟨gb, 0, none⟩ = some (.int .u8 (bt : Int)) ∧ w'.cell? ⟨gy, 0, none⟩ = some (.func (.yield l) #[] #[])) (hop : (q.op == 1) = false)
    (u0 u1 u2 u5 u7 u8 u9 u10 u11 u12 u13 u14 u15 u16 u17 u18 u19 u20 u21 u22 u23 u24 u25 u26 u27 u28 u29 u30 u31 u32 u33 u34 : Value) (Q : Exit → Act → World → Prop)
    (h : ∀ w', Below w.heap.size w w' → Q .normal { tmps := (List.toArray ((u0 :: u1 :: u2 :: .pointer (some ⟨gb, 0, none⟩) :: .pointer (some ⟨gy, 0, none⟩) :: u5 :: .pointer (some ⟨b, o, none⟩) :: u7 :: u8 :: u9 :: u10 :: u11 :: u12 :: .pointer (some ⟨b, o, none⟩) :: .pointer (some ⟨b, o, none⟩) :: .pointer (some ⟨b, o, none⟩) :: .int .i64 q.op :: .bool false :: .bool false :: undef :: undef :: undef :: undef :: undef :: undef :: .bool false :: .bool false :: undef :: undef :: undef :: undef :: undef :: undef :: undef :: .bool false :: []) : List Value)), defers := [] } w') :
    (Code.region 4 #[{ dst := some 13, op := Op.move (Operand.tmp 6), type := 144, pos := "sim.go:188", after := #[], guard := none }, { dst := some 14, op := Op.nilCheck (Operand.tmp 13), type := 0, pos := "sim.go:188", after := #[{ on := 0, ground := Ground.data }], guard := none }, { dst := some 15, op := Op.fieldAddr 102 (Operand.tmp 14) 0, type := 0, pos := "sim.go:188", after := #[{ on := 1, ground := Ground.data }], guard := none }, { dst := some 16, op := Op.load 3 (Operand.tmp 15), type := 3, pos := "sim.go:188", after := #[{ on := 2, ground := Ground.data }], guard := none }, { dst := some 17, op := Op.binOp BinOp.eql 3 (Operand.tmp 16) (Operand.const (Value.int IntKind.i64 1)) 3, type := 4, pos := "sim.go:188", after := #[{ on := 3, ground := Ground.data }], guard := none }, { dst := some 18, op := Op.move (Operand.tmp 17), type := 4, pos := "sim.go:188", after := #[{ on := 4, ground := Ground.data }], guard := none }, { dst := some 19, op := Op.move (Operand.tmp 6), type := 144, pos := "sim.go:188", after := #[{ on := 5, ground := Ground.guard }], guard := some (5, true) }, { dst := some 20, op := Op.nilCheck (Operand.tmp 19), type := 0, pos := "sim.go:188", after := #[{ on := 6, ground := Ground.data }, { on := 5, ground := Ground.guard }], guard := some (5, true) }, { dst := some 21, op := Op.fieldAddr 102 (Operand.tmp 20) 1, type := 0, pos := "sim.go:188", after := #[{ on := 7, ground := Ground.data }, { on := 5, ground := Ground.guard }], guard := some (5, true) }, { dst := some 22, op := Op.load 24 (Operand.tmp 21), type := 24, pos := "sim.go:188", after := #[{ on := 8, ground := Ground.data }, { on := 5, ground := Ground.guard }], guard := some (5, true) }, { dst := some 23, op := Op.load 5 (Operand.tmp 3), type := 5, pos := "sim.go:188", after := #[{ on := 5, ground := Ground.guard }], guard := some (5, true) }, { dst := some 24, op := Op.call { callee := Callee.value (Operand.func 85), args := #[Operand.tmp 22, Operand.tmp 23], argTypes := #[24, 5] }, type := 4, pos := "sim.go:188", after := #[{ on := 9, ground := Ground.data }, { on := 10, ground := Ground.data }, { on := 5, ground := Ground.chain }, { on := 5, ground := Ground.guard }], guard := some (5, true) }, { dst := some 25, op := Op.pick (Operand.tmp 18) (Operand.tmp 24) (Operand.const (Value.bool false)), type := 4, pos := "sim.go:188", after := #[{ on := 5, ground := Ground.data }, { on := 11, ground := Ground.data }], guard := none }, { dst := some 26, op := Op.move (Operand.tmp 25), type := 4, pos := "sim.go:188", after := #[{ on := 12, ground := Ground.data }, { on := 11, ground := Ground.chain }], guard := none }, { dst := some 27, op := Op.load 142 (Operand.tmp 4), type := 142, pos := "sim.go:188", after := #[{ on := 13, ground := Ground.guard }], guard := some (13, true) }, { dst := some 28, op := Op.move (Operand.tmp 6), type := 144, pos := "sim.go:188", after := #[{ on := 13, ground := Ground.guard }], guard := some (13, true) }, { dst := some 29, op := Op.nilCheck (Operand.tmp 28), type := 0, pos := "sim.go:188", after := #[{ on := 15, ground := Ground.data }, { on := 13, ground := Ground.guard }], guard := some (13, true) }, { dst := some 30, op := Op.fieldAddr 102 (Operand.tmp 29) 2, type := 0, pos := "sim.go:188", after := #[{ on := 16, ground := Ground.data }, { on := 13, ground := Ground.guard }], guard := some (13, true) }, { dst := some 31, op := Op.load 3 (Operand.tmp 30), type := 3, pos := "sim.go:188", after := #[{ on := 17, ground := Ground.data }, { on := 13, ground := Ground.guard }], guard := some (13, true) }, { dst := some 32, op := Op.call { callee := Callee.value (Operand.tmp 27), args := #[Operand.tmp 31], argTypes := #[3] }, type := 4, pos := "sim.go:188", after := #[{ on := 14, ground := Ground.data }, { on := 18, ground := Ground.data }, { on := 13, ground := Ground.chain }, { on := 13, ground := Ground.guard }], guard := some (13, true) }, { dst := some 33, op := Op.unOp UnOp.not 4 (Operand.tmp 32), type := 4, pos := "sim.go:188", after := #[{ on := 19, ground := Ground.data }, { on := 13, ground := Ground.guard }], guard := some (13, true) }, { dst := some 34, op := Op.pick (Operand.tmp 26) (Operand.tmp 33) (Operand.const (Value.bool false)), type := 4, pos := "sim.go:188", after := #[{ on := 13, ground := Ground.data }, { on := 20, ground := Ground.data }], guard := none }] true).wpIn (Fence.wide.inRound l0) n0 Tryz.prog Q { tmps := (List.toArray ((u0 :: u1 :: u2 :: .pointer (some ⟨gb, 0, none⟩) :: .pointer (some ⟨gy, 0, none⟩) :: u5 :: .pointer (some ⟨b, o, none⟩) :: u7 :: u8 :: u9 :: u10 :: u11 :: u12 :: u13 :: u14 :: u15 :: u16 :: u17 :: u18 :: u19 :: u20 :: u21 :: u22 :: u23 :: u24 :: u25 :: u26 :: u27 :: u28 :: u29 :: u30 :: u31 :: u32 :: u33 :: u34 :: []) : List Value)), defers := [] } w := by
  have hD : Below w.heap.size w w.drew := (Below.refl _ w).drew
  have hC := hide hC0
  clear hC0
  replace h := hide h
  refine Code.wpIn_mono NoPanic.imp ?_
  refine wpIn_region_any (by kernel_rfl) ?_
  change wpAnyIn _ _ _ _ _ _ _ _ _ (World.drew w)
  refine anyIn_inRound l0 (noDefer _ (by kernel_rfl)) _ _ _ _ ?_
  refine wpAnyIn_take (i := 0) (oi := { dst := some 13, op := Op.move (Operand.tmp 6), type := 144, pos := "sim.go:188", after := #[], guard := none }) (v := ?_) rfl rfl (by kernel_rfl) (by kernel_rfl) (by kernel_rfl) (fun _ _ _ h => h) ⟨Or.inl ⟨by rfl, ?_⟩, fun _ => rfl⟩ ?_
  rotate_left
  · intro w'
    go_simp
    try with_reducible rfl
  try simp only [Act.put, List.setIfInBounds_toArray, List.set_cons_zero, List.set_cons_succ]
  refine wpAnyIn_take (i := 1) (oi := { dst := some 14, op := Op.nilCheck (Operand.tmp 13), type := 0, pos := "sim.go:188", after := #[{ on := 0, ground := Ground.data }], guard := none }) (v := ?_) rfl rfl (by kernel_rfl) (by kernel_rfl) (by kernel_rfl) (fun _ _ _ h => h) ⟨Or.inl ⟨by rfl, ?_⟩, fun _ => rfl⟩ ?_
  rotate_left
  · intro w'
    go_simp
    try with_reducible rfl
  try simp only [Act.put, List.setIfInBounds_toArray, List.set_cons_zero, List.set_cons_succ]
  refine wpAnyIn_take (i := 2) (oi := { dst := some 15, op := Op.fieldAddr 102 (Operand.tmp 14) 0, type := 0, pos := "sim.go:188", after := #[{ on := 1, ground := Ground.data }], guard := none }) (v := ?_) rfl rfl (by kernel_rfl) (by kernel_rfl) (by kernel_rfl) (fun _ _ _ h => h) ⟨Or.inl ⟨by rfl, ?_⟩, fun _ => rfl⟩ ?_
  rotate_left
  · intro w'
    go_simp
    try with_reducible rfl
  try simp only [Act.put, List.setIfInBounds_toArray, List.set_cons_zero, List.set_cons_succ]
  refine wpAnyIn_ready (rs := [3]) (by kernel_rfl) (by simp) ?_
  refine (AllReadyIn.cons (o := { dst := some 16, op := Op.load 3 (Operand.tmp 15), type := 3, pos := "sim.go:188", after := #[{ on := 2, ground := Ground.data }], guard := none }) rfl (fun K3 hK3 => ?_) AllReadyIn.nil)
  refine wpI_ldg 3 wide_fn rfl (by rfl) rfl (ld3 (hC.out _ hD).1) (hK3 _ _ ?_)
  clear hK3 K3
  try simp only [Act.put, List.setIfInBounds_toArray, List.set_cons_zero, List.set_cons_succ]
  refine wpAnyIn_take (i := 4) (oi := { dst := some 17, op := Op.binOp BinOp.eql 3 (Operand.tmp 16) (Operand.const (Value.int IntKind.i64 1)) 3, type := 4, pos := "sim.go:188", after := #[{ on := 3, ground := Ground.data }], guard := none }) (v := ?_) rfl rfl (by kernel_rfl) (by kernel_rfl) (by kernel_rfl) (fun _ _ _ h => h) ⟨Or.inl ⟨by rfl, ?_⟩, fun _ => rfl⟩ ?_
  rotate_left
  · intro w'
    go_simp
    try with_reducible rfl
  try simp only [Act.put, List.setIfInBounds_toArray, List.set_cons_zero, List.set_cons_succ]
  refine wpAnyIn_take (i := 5) (oi := { dst := some 18, op := Op.move (Operand.tmp 17), type := 4, pos := "sim.go:188", after := #[{ on := 4, ground := Ground.data }], guard := none }) (v := ?_) rfl rfl (by kernel_rfl) (by kernel_rfl) (by kernel_rfl) (fun _ _ _ h => h) ⟨Or.inl ⟨by rfl, ?_⟩, fun _ => rfl⟩ ?_
  rotate_left
  · intro w'
    go_simp
    try with_reducible rfl
  try simp only [Act.put, List.setIfInBounds_toArray, List.set_cons_zero, List.set_cons_succ]
  refine wpAnyIn_take (i := 6) (oi := { dst := some 19, op := Op.move (Operand.tmp 6), type := 144, pos := "sim.go:188", after := #[{ on := 5, ground := Ground.guard }], guard := some (5, true) }) (v := undef) rfl rfl (by kernel_rfl) (by kernel_rfl) (by kernel_rfl) (fun _ _ _ h => h) ⟨Or.inr ⟨by rfl, rfl⟩, fun _ => rfl⟩ ?_
  try simp only [Act.put, List.setIfInBounds_toArray, List.set_cons_zero, List.set_cons_succ]
  refine wpAnyIn_take (i := 7) (oi := { dst := some 20, op := Op.nilCheck (Operand.tmp 19), type := 0, pos := "sim.go:188", after := #[{ on := 6, ground := Ground.data }, { on := 5, ground := Ground.guard }], guard := some (5, true) }) (v := undef) rfl rfl (by kernel_rfl) (by kernel_rfl) (by kernel_rfl) (fun _ _ _ h => h) ⟨Or.inr ⟨by rfl, rfl⟩, fun _ => rfl⟩ ?_
  try simp only [Act.put, List.setIfInBounds_toArray, List.set_cons_zero, List.set_cons_succ]
  refine wpAnyIn_take (i := 8) (oi := { dst := some 21, op := Op.fieldAddr 102 (Operand.tmp 20) 1, type := 0, pos := "sim.go:188", after := #[{ on := 7, ground := Ground.data }, { on := 5, ground := Ground.guard }], guard := some (5, true) }) (v := undef) rfl rfl (by kernel_rfl) (by kernel_rfl) (by kernel_rfl) (fun _ _ _ h => h) ⟨Or.inr ⟨by rfl, rfl⟩, fun _ => rfl⟩ ?_
  try simp only [Act.put, List.setIfInBounds_toArray, List.set_cons_zero, List.set_cons_succ]
  refine wpAnyIn_take (i := 9) (oi := { dst := some 22, op := Op.load 24 (Operand.tmp 21), type := 24, pos := "sim.go:188", after := #[{ on := 8, ground := Ground.data }, { on := 5, ground := Ground.guard }], guard := some (5, true) }) (v := undef) rfl rfl (by kernel_rfl) (by kernel_rfl) (by kernel_rfl) (fun _ _ _ h => h) ⟨Or.inr ⟨by rfl, rfl⟩, fun _ => rfl⟩ ?_
  try simp only [Act.put, List.setIfInBounds_toArray, List.set_cons_zero, List.set_cons_succ]
  refine wpAnyIn_take (i := 10) (oi := { dst := some 23, op := Op.load 5 (Operand.tmp 3), type := 5, pos := "sim.go:188", after := #[{ on := 5, ground := Ground.guard }], guard := some (5, true) }) (v := undef) rfl rfl (by kernel_rfl) (by kernel_rfl) (by kernel_rfl) (fun _ _ _ h => h) ⟨Or.inr ⟨by rfl, rfl⟩, fun _ => rfl⟩ ?_
  try simp only [Act.put, List.setIfInBounds_toArray, List.set_cons_zero, List.set_cons_succ]
  refine wpAnyIn_ready (rs := [11]) (by kernel_rfl) (by simp) ?_
  refine (AllReadyIn.cons (o := { dst := some 24, op := Op.call { callee := Callee.value (Operand.func 85), args := #[Operand.tmp 22, Operand.tmp 23], argTypes := #[24, 5] }, type := 4, pos := "sim.go:188", after := #[{ on := 9, ground := Ground.data }, { on := 10, ground := Ground.data }, { on := 5, ground := Ground.chain }, { on := 5, ground := Ground.guard }], guard := some (5, true) }) rfl (fun K11 hK11 => ?_) AllReadyIn.nil)
  refine wpI_skip (by rfl) wide_fn (hK11 _ _ ?_)
  clear hK11 K11
  try simp only [Act.put, List.setIfInBounds_toArray, List.set_cons_zero, List.set_cons_succ]
  refine wpAnyIn_take (i := 12) (oi := { dst := some 25, op := Op.pick (Operand.tmp 18) (Operand.tmp 24) (Operand.const (Value.bool false)), type := 4, pos := "sim.go:188", after := #[{ on := 5, ground := Ground.data }, { on := 11, ground := Ground.data }], guard := none }) (v := ?_) rfl rfl (by kernel_rfl) (by kernel_rfl) (by kernel_rfl) (fun _ _ _ h => h) ⟨Or.inl ⟨by rfl, ?_⟩, fun _ => rfl⟩ ?_
  rotate_left
  · intro w'
    go_simp
    try with_reducible rfl
  try simp only [Act.put, List.setIfInBounds_toArray, List.set_cons_zero, List.set_cons_succ]
  refine wpAnyIn_take (i := 13) (oi := { dst := some 26, op := Op.move (Operand.tmp 25), type := 4, pos := "sim.go:188", after := #[{ on := 12, ground := Ground.data }, { on := 11, ground := Ground.chain }], guard := none }) (v := ?_) rfl rfl (by kernel_rfl) (by kernel_rfl) (by kernel_rfl) (fun _ _ _ h => h) ⟨Or.inl ⟨by rfl, ?_⟩, fun _ => rfl⟩ ?_
  rotate_left
  · intro w'
    go_simp
    try with_reducible rfl
  try simp only [Act.put, List.setIfInBounds_toArray, List.set_cons_zero, List.set_cons_succ]
  refine wpAnyIn_take (i := 14) (oi := { dst := some 27, op := Op.load 142 (Operand.tmp 4), type := 142, pos := "sim.go:188", after := #[{ on := 13, ground := Ground.guard }], guard := some (13, true) }) (v := undef) rfl rfl (by kernel_rfl) (by kernel_rfl) (by kernel_rfl) (fun _ _ _ h => h) ⟨Or.inr ⟨by rfl, rfl⟩, fun _ => rfl⟩ ?_
  try simp only [Act.put, List.setIfInBounds_toArray, List.set_cons_zero, List.set_cons_succ]
  refine wpAnyIn_take (i := 15) (oi := { dst := some 28, op := Op.move (Operand.tmp 6), type := 144, pos := "sim.go:188", after := #[{ on := 13, ground := Ground.guard }], guard := some (13, true) }) (v := undef) rfl rfl (by kernel_rfl) (by kernel_rfl) (by kernel_rfl) (fun _ _ _ h => h) ⟨Or.inr ⟨by rfl, rfl⟩, fun _ => rfl⟩ ?_
  try simp only [Act.put, List.setIfInBounds_toArray, List.set_cons_zero, List.set_cons_succ]
  refine wpAnyIn_take (i := 16) (oi := { dst := some 29, op := Op.nilCheck (Operand.tmp 28), type := 0, pos := "sim.go:188", after := #[{ on := 15, ground := Ground.data }, { on := 13, ground := Ground.guard }], guard := some (13, true) }) (v := undef) rfl rfl (by kernel_rfl) (by kernel_rfl) (by kernel_rfl) (fun _ _ _ h => h) ⟨Or.inr ⟨by rfl, rfl⟩, fun _ => rfl⟩ ?_
  try simp only [Act.put, List.setIfInBounds_toArray, List.set_cons_zero, List.set_cons_succ]
  refine wpAnyIn_take (i := 17) (oi := { dst := some 30, op := Op.fieldAddr 102 (Operand.tmp 29) 2, type := 0, pos := "sim.go:188", after := #[{ on := 16, ground := Ground.data }, { on := 13, ground := Ground.guard }], guard := some (13, true) }) (v := undef) rfl rfl (by kernel_rfl) (by kernel_rfl) (by kernel_rfl) (fun _ _ _ h => h) ⟨Or.inr ⟨by rfl, rfl⟩, fun _ => rfl⟩ ?_
  try simp only [Act.put, List.setIfInBounds_toArray, List.set_cons_zero, List.set_cons_succ]
  refine wpAnyIn_take (i := 18) (oi := { dst := some 31, op := Op.load 3 (Operand.tmp 30), type := 3, pos := "sim.go:188", after := #[{ on := 17, ground := Ground.data }, { on := 13, ground := Ground.guard }], guard := some (13, true) }) (v := undef) rfl rfl (by kernel_rfl) (by kernel_rfl) (by kernel_rfl) (fun _ _ _ h => h) ⟨Or.inr ⟨by rfl, rfl⟩, fun _ => rfl⟩ ?_
  try simp only [Act.put, List.setIfInBounds_toArray, List.set_cons_zero, List.set_cons_succ]
  refine wpAnyIn_take (i := 19) (oi := { dst := some 32, op := Op.call { callee := Callee.value (Operand.tmp 27), args := #[Operand.tmp 31], argTypes := #[3] }, type := 4, pos := "sim.go:188", after := #[{ on := 14, ground := Ground.data }, { on := 18, ground := Ground.data }, { on := 13, ground := Ground.chain }, { on := 13, ground := Ground.guard }], guard := some (13, true) }) (v := undef) rfl rfl (by kernel_rfl) (by kernel_rfl) (by kernel_rfl) (fun _ _ _ h => h) ⟨Or.inr ⟨by rfl, rfl⟩, fun _ => rfl⟩ ?_
  try simp only [Act.put, List.setIfInBounds_toArray, List.set_cons_zero, List.set_cons_succ]
  refine wpAnyIn_take (i := 20) (oi := { dst := some 33, op := Op.unOp UnOp.not 4 (Operand.tmp 32), type := 4, pos := "sim.go:188", after := #[{ on := 19, ground := Ground.data }, { on := 13, ground := Ground.guard }], guard := some (13, true) }) (v := undef) rfl rfl (by kernel_rfl) (by kernel_rfl) (by kernel_rfl) (fun _ _ _ h => h) ⟨Or.inr ⟨by rfl, rfl⟩, fun _ => rfl⟩ ?_
  try simp only [Act.put, List.setIfInBounds_toArray, List.set_cons_zero, List.set_cons_succ]
  refine wpAnyIn_take (i := 21) (oi := { dst := some 34, op := Op.pick (Operand.tmp 26) (Operand.tmp 33) (Operand.const (Value.bool false)), type := 4, pos := "sim.go:188", after := #[{ on := 13, ground := Ground.data }, { on := 20, ground := Ground.data }], guard := none }) (v := ?_) rfl rfl (by kernel_rfl) (by kernel_rfl) (by kernel_rfl) (fun _ _ _ h => h) ⟨Or.inl ⟨by rfl, ?_⟩, fun _ => rfl⟩ ?_
  rotate_left
  · intro w'
    go_simp
    try with_reducible rfl
  try simp only [Act.put, List.setIfInBounds_toArray, List.set_cons_zero, List.set_cons_succ]
  refine wpAnyIn_done (by kernel_rfl) ?_ _
  refine NoPanic.normal ?_
  exact h.out _ hD
set_option maxHeartbeats 4000000 in
set_option maxRecDepth 100000 in
theorem reg85_b (l0 n0 : Nat) (w : World) (b o gb gy l : Nat) (q : Ins) (bt : Nat) (hC0 : ∀ w', Below w.heap.size w w' → w'.cell? ⟨b, o, none⟩ = some (.int .i64 q.op) ∧ (loadVar 24 ⟨b, o + 1, none⟩).run Tryz.prog w' = .ok (setV q.s) w' ∧ w'.cell? ⟨b, o + 5, none⟩ = some (.int .i64 q.x) ∧ w'.cell? ⟨gb, 0, none⟩ = some (.int .u8 (bt : Int)) ∧ w'.cell? ⟨gy, 0, none⟩ = some (.func (.yield l) #[] #[])) (hop : (q.op == 1) = true) (hs : OkS q.s) (hbt : bt < 256) (hin : inS q.s bt = false)
    (u0 u1 u2 u5 u7 u8 u9 u10 u11 u12 u13 u14 u15 u16 u17 u18 u19 u20 u21 u22 u23 u24 u25 u26 u27 u28 u29 u30 u31 u32 u33 u34 : Value) (Q : Exit → Act → World → Prop)
    (h : ∀ w', Below w.heap.size w w' → Q .normal { tmps := (List.toArray ((u0 :: u1 :: u2 :: .pointer (some ⟨gb, 0, none⟩) :: .pointer (some ⟨gy, 0, none⟩) :: u5 :: .pointer (some ⟨b, o, none⟩) :: u7 :: u8 :: u9 :: u10 :: u11 :: u12 :: .pointer (some ⟨b, o, none⟩) :: .pointer (some ⟨b, o, none⟩) :: .pointer (some ⟨b, o, none⟩) :: .int .i64 q.op :: .bool true :: .bool true :: .pointer (some ⟨b, o, none⟩) :: .pointer (some ⟨b, o, none⟩) :: .pointer (some ⟨b, o + 1, none⟩) :: setV q.s :: .int .u8 (bt : Int) :: .bool false :: .bool false :: .bool false :: undef :: undef :: undef :: undef :: undef :: undef :: undef :: .bool false :: []) : List Value)), defers := [] } w') :
    (Code.region 4 #[{ dst := some 13, op := Op.move (Operand.tmp 6), type := 144, pos := "sim.go:188", after := #[], guard := none }, { dst := some 14, op := Op.nilCheck (Operand.tmp 13), type := 0, pos := "sim.go:188", after := #[{ on := 0, ground := Ground.data }], guard := none }, { dst := some 15, op := Op.fieldAddr 102 (Operand.tmp 14) 0, type := 0, pos := "sim.go:188", after := #[{ on := 1, ground := Ground.data }], guard := none }, { dst := some 16, op := Op.load 3 (Operand.tmp 15), type := 3, pos := "sim.go:188", after := #[{ on := 2, ground := Ground.data }], guard := none }, { dst := some 17, op := Op.binOp BinOp.eql 3 (Operand.tmp 16) (Operand.const (Value.int IntKind.i64 1)) 3, type := 4, pos := "sim.go:188", after := #[{ on := 3, ground := Ground.data }], guard := none }, { dst := some 18, op := Op.move (Operand.tmp 17), type := 4, pos := "sim.go:188", after := #[{ on := 4, ground := Ground.data }], guard := none }, { dst := some 19, op := Op.move (Operand.tmp 6), type := 144, pos := "sim.go:188", after := #[{ on := 5, ground := Ground.guard }], guard := some (5, true) }, { dst := some 20, op := Op.nilCheck (Operand.tmp 19), type := 0, pos := "sim.go:188", after := #[{ on := 6, ground := Ground.data }, { on := 5, ground := Ground.guard }], guard := some (5, true) }, { dst := some 21, op := Op.fieldAddr 102 (Operand.tmp 20) 1, type := 0, pos := "sim.go:188", after := #[{ on := 7, ground := Ground.data }, { on := 5, ground := Ground.guard }], guard := some (5, true) }, { dst := some 22, op := Op.load 24 (Operand.tmp 21), type := 24, pos := "sim.go:188", after := #[{ on := 8, ground := Ground.data }, { on := 5, ground := Ground.guard }], guard := some (5, true) }, { dst := some 23, op := Op.load 5 (Operand.tmp 3), type := 5, pos := "sim.go:188", after := #[{ on := 5, ground := Ground.guard }], guard := some (5, true) }, { dst := some 24, op := Op.call { callee := Callee.value (Operand.func 85), args := #[Operand.tmp 22, Operand.tmp 23], argTypes := #[24, 5] }, type := 4, pos := "sim.go:188", after := #[{ on := 9, ground := Ground.data }, { on := 10, ground := Ground.data }, { on := 5, ground := Ground.chain }, { on := 5, ground := Ground.guard }], guard := some (5, true) }, { dst := some 25, op := Op.pick (Operand.tmp 18) (Operand.tmp 24) (Operand.const (Value.bool false)), type := 4, pos := "sim.go:188", after := #[{ on := 5, ground := Ground.data }, { on := 11, ground := Ground.data }], guard := none }, { dst := some 26, op := Op.move (Operand.tmp 25), type := 4, pos := "sim.go:188", after := #[{ on := 12, ground := Ground.data }, { on := 11, ground := Ground.chain }], guard := none }, { dst := some 27, op := Op.load 142 (Operand.tmp 4), type := 142, pos := "sim.go:188", after := #[{ on := 13, ground := Ground.guard }], guard := some (13, true) }, { dst := some 28, op := Op.move (Operand.tmp 6), type := 144, pos := "sim.go:188", after := #[{ on := 13, ground := Ground.guard }], guard := some (13, true) }, { dst := some 29, op := Op.nilCheck (Operand.tmp 28), type := 0, pos := "sim.go:188", after := #[{ on := 15, ground := Ground.data }, { on := 13, ground := Ground.guard }], guard := some (13, true) }, { dst := some 30, op := Op.fieldAddr 102 (Operand.tmp 29) 2, type := 0, pos := "sim.go:188", after := #[{ on := 16, ground := Ground.data }, { on := 13, ground := Ground.guard }], guard := some (13, true) }, { dst := some 31, op := Op.load 3 (Operand.tmp 30), type := 3, pos := "sim.go:188", after := #[{ on := 17, ground := Ground.data }, { on := 13, ground := Ground.guard }], guard := some (13, true) }, { dst := some 32, op := Op.call { callee := Callee.value (Operand.tmp 27), args := #[Operand.tmp 31], argTypes := #[3] }, type := 4, pos := "sim.go:188", after := #[{ on := 14, ground := Ground.data }, { on := 18, ground := Ground.data }, { on := 13, ground := Ground.chain }, { on := 13, ground := Ground.guard }], guard := some (13, true) }, { dst := some 33, op := Op.unOp UnOp.not 4 (Operand.tmp 32), type := 4, pos := "sim.go:188", after := #[{ on := 19, ground := Ground.data }, { on := 13, ground := Ground.guard }], guard := some (13, true) }, { dst := some 34, op := Op.pick (Operand.tmp 26) (Operand.tmp 33) (Operand.const (Value.bool false)), type := 4, pos := "sim.go:188", after := #[{ on := 13, ground := Ground.data }, { on := 20, ground := Ground.data }], guard := none }] true).wpIn (Fence.wide.inRound l0) n0 Tryz.prog Q { tmps := (List.toArray ((u0 :: u1 :: u2 :: .pointer (some ⟨gb, 0, none⟩) :: .pointer (some ⟨gy, 0, none⟩) :: u5 :: .pointer (some ⟨b, o, none⟩) :: u7 :: u8 :: u9 :: u10 :: u11 :: u12 :: u13 :: u14 :: u15 :: u16 :: u17 :: u18 :: u19 :: u20 :: u21 :: u22 :: u23 :: u24 :: u25 :: u26 :: u27 :: u28 :: u29 :: u30 :: u31 :: u32 :: u33 :: u34 :: []) : List Value)), defers := [] } w := by
  have hD : Below w.heap.size w w.drew := (Below.refl _ w).drew
  have hC := hide hC0
  clear hC0
  replace h := hide h
  refine Code.wpIn_mono NoPanic.imp ?_
  refine wpIn_region_any (by kernel_rfl) ?_
  change wpAnyIn _ _ _ _ _ _ _ _ _ (World.drew w)
  refine anyIn_inRound l0 (noDefer _ (by kernel_rfl)) _ _ _ _ ?_
  refine wpAnyIn_take (i := 0) (oi := { dst := some 13, op := Op.move (Operand.tmp 6), type := 144, pos := "sim.go:188", after := #[], guard := none }) (v := ?_) rfl rfl (by kernel_rfl) (by kernel_rfl) (by kernel_rfl) (fun _ _ _ h => h) ⟨Or.inl ⟨by rfl, ?_⟩, fun _ => rfl⟩ ?_
  rotate_left
  · intro w'
    go_simp
    try with_reducible rfl
  try simp only [Act.put, List.setIfInBounds_toArray, List.set_cons_zero, List.set_cons_succ]
  refine wpAnyIn_take (i := 1) (oi := { dst := some 14, op := Op.nilCheck (Operand.tmp 13), type := 0, pos := "sim.go:188", after := #[{ on := 0, ground := Ground.data }], guard := none }) (v := ?_) rfl rfl (by kernel_rfl) (by kernel_rfl) (by kernel_rfl) (fun _ _ _ h => h) ⟨Or.inl ⟨by rfl, ?_⟩, fun _ => rfl⟩ ?_
  rotate_left
  · intro w'
    go_simp
    try with_reducible rfl
  try simp only [Act.put, List.setIfInBounds_toArray, List.set_cons_zero, List.set_cons_succ]
  refine wpAnyIn_take (i := 2) (oi := { dst := some 15, op := Op.fieldAddr 102 (Operand.tmp 14) 0, type := 0, pos := "sim.go:188", after := #[{ on := 1, ground := Ground.data }], guard := none }) (v := ?_) rfl rfl (by kernel_rfl) (by kernel_rfl) (by kernel_rfl) (fun _ _ _ h => h) ⟨Or.inl ⟨by rfl, ?_⟩, fun _ => rfl⟩ ?_
  rotate_left
  · intro w'
    go_simp
    try with_reducible rfl
  try simp only [Act.put, List.setIfInBounds_toArray, List.set_cons_zero, List.set_cons_succ]
  refine wpAnyIn_ready (rs := [3]) (by kernel_rfl) (by simp) ?_
  refine (AllReadyIn.cons (o := { dst := some 16, op := Op.load 3 (Operand.tmp 15), type := 3, pos := "sim.go:188", after := #[{ on := 2, ground := Ground.data }], guard := none }) rfl (fun K3 hK3 => ?_) AllReadyIn.nil)
  refine wpI_ldg 3 wide_fn rfl (by rfl) rfl (ld3 (hC.out _ hD).1) (hK3 _ _ ?_)
  clear hK3 K3
  try simp only [Act.put, List.setIfInBounds_toArray, List.set_cons_zero, List.set_cons_succ]
  refine wpAnyIn_take (i := 4) (oi := { dst := some 17, op := Op.binOp BinOp.eql 3 (Operand.tmp 16) (Operand.const (Value.int IntKind.i64 1)) 3, type := 4, pos := "sim.go:188", after := #[{ on := 3, ground := Ground.data }], guard := none }) (v := ?_) rfl rfl (by kernel_rfl) (by kernel_rfl) (by kernel_rfl) (fun _ _ _ h => h) ⟨Or.inl ⟨by rfl, ?_⟩, fun _ => rfl⟩ ?_
  rotate_left
  · intro w'
    go_simp
    try with_reducible rfl
  try simp only [Act.put, List.setIfInBounds_toArray, List.set_cons_zero, List.set_cons_succ]
  refine wpAnyIn_take (i := 5) (oi := { dst := some 18, op := Op.move (Operand.tmp 17), type := 4, pos := "sim.go:188", after := #[{ on := 4, ground := Ground.data }], guard := none }) (v := ?_) rfl rfl (by kernel_rfl) (by kernel_rfl) (by kernel_rfl) (fun _ _ _ h => h) ⟨Or.inl ⟨by rfl, ?_⟩, fun _ => rfl⟩ ?_
  rotate_left
  · intro w'
    go_simp
    try with_reducible rfl
  try simp only [Act.put, List.setIfInBounds_toArray, List.set_cons_zero, List.set_cons_succ]
  refine wpAnyIn_take (i := 6) (oi := { dst := some 19, op := Op.move (Operand.tmp 6), type := 144, pos := "sim.go:188", after := #[{ on := 5, ground := Ground.guard }], guard := some (5, true) }) (v := ?_) rfl rfl (by kernel_rfl) (by kernel_rfl) (by kernel_rfl) (fun _ _ _ h => h) ⟨Or.inl ⟨by rfl, ?_⟩, fun _ => rfl⟩ ?_
  rotate_left
  · intro w'
    go_simp
    try with_reducible rfl
  try simp only [Act.put, List.setIfInBounds_toArray, List.set_cons_zero, List.set_cons_succ]
  refine wpAnyIn_take (i := 7) (oi := { dst := some 20, op := Op.nilCheck (Operand.tmp 19), type := 0, pos := "sim.go:188", after := #[{ on := 6, ground := Ground.data }, { on := 5, ground := Ground.guard }], guard := some (5, true) }) (v := ?_) rfl rfl (by kernel_rfl) (by kernel_rfl) (by kernel_rfl) (fun _ _ _ h => h) ⟨Or.inl ⟨by rfl, ?_⟩, fun _ => rfl⟩ ?_
  rotate_left
  · intro w'
    go_simp
    try with_reducible rfl
  try simp only [Act.put, List.setIfInBounds_toArray, List.set_cons_zero, List.set_cons_succ]
  refine wpAnyIn_take (i := 8) (oi := { dst := some 21, op := Op.fieldAddr 102 (Operand.tmp 20) 1, type := 0, pos := "sim.go:188", after := #[{ on := 7, ground := Ground.data }, { on := 5, ground := Ground.guard }], guard := some (5, true) }) (v := ?_) rfl rfl (by kernel_rfl) (by kernel_rfl) (by kernel_rfl) (fun _ _ _ h => h) ⟨Or.inl ⟨by rfl, ?_⟩, fun _ => rfl⟩ ?_
  rotate_left
  · intro w'
    go_simp
    try with_reducible rfl
  try simp only [Act.put, List.setIfInBounds_toArray, List.set_cons_zero, List.set_cons_succ]
  refine wpAnyIn_ready (rs := [9, 10]) (by kernel_rfl) (by simp) ?_
  refine (AllReadyIn.cons (o := { dst := some 22, op := Op.load 24 (Operand.tmp 21), type := 24, pos := "sim.go:188", after := #[{ on := 8, ground := Ground.data }, { on := 5, ground := Ground.guard }], guard := some (5, true) }) rfl (fun K9 hK9 => ?_) (AllReadyIn.cons (o := { dst := some 23, op := Op.load 5 (Operand.tmp 3), type := 5, pos := "sim.go:188", after := #[{ on := 5, ground := Ground.guard }], guard := some (5, true) }) rfl (fun K10 hK10 => ?_) AllReadyIn.nil))
  · refine wpI_ldg 24 wide_fn rfl (by rfl) rfl ((hC.out _ hD).2.1) (hK9 _ _ ?_)
    clear hK9 K9
    try simp only [Act.put, List.setIfInBounds_toArray, List.set_cons_zero, List.set_cons_succ]
    refine wpAnyIn_ready (rs := [10]) (by kernel_rfl) (by simp) ?_
    refine (AllReadyIn.cons (o := { dst := some 23, op := Op.load 5 (Operand.tmp 3), type := 5, pos := "sim.go:188", after := #[{ on := 5, ground := Ground.guard }], guard := some (5, true) }) rfl (fun K10 hK10 => ?_) AllReadyIn.nil)
    refine wpI_ldg 5 wide_fn rfl (by rfl) rfl (ld5 (hC.out _ hD).2.2.2.1) (hK10 _ _ ?_)
    clear hK10 K10
    try simp only [Act.put, List.setIfInBounds_toArray, List.set_cons_zero, List.set_cons_succ]
    refine wpAnyIn_ready (rs := [11]) (by kernel_rfl) (by simp) ?_
    refine (AllReadyIn.cons (o := { dst := some 24, op := Op.call { callee := Callee.value (Operand.func 85), args := #[Operand.tmp 22, Operand.tmp 23], argTypes := #[24, 5] }, type := 4, pos := "sim.go:188", after := #[{ on := 9, ground := Ground.data }, { on := 10, ground := Ground.data }, { on := 5, ground := Ground.chain }, { on := 5, ground := Ground.guard }], guard := some (5, true) }) rfl (fun K11 hK11 => ?_) AllReadyIn.nil)
    go_simp
    refine ⟨trivial, fun h => (by cases h), (callsIn_wide.2 (has86 q.s hs bt hbt _)).mono ?_⟩
    rintro e w4 ⟨rfl, B4⟩
    replace B4 : Below w.heap.size w.drew w4 := B4
    rw [hin]
    refine hK11 _ _ ?_
    clear hK11 K11
    try simp only [Act.put, List.setIfInBounds_toArray, List.set_cons_zero, List.set_cons_succ]
    refine wpAnyIn_take (i := 12) (oi := { dst := some 25, op := Op.pick (Operand.tmp 18) (Operand.tmp 24) (Operand.const (Value.bool false)), type := 4, pos := "sim.go:188", after := #[{ on := 5, ground := Ground.data }, { on := 11, ground := Ground.data }], guard := none }) (v := ?_) rfl rfl (by kernel_rfl) (by kernel_rfl) (by kernel_rfl) (fun _ _ _ h => h) ⟨Or.inl ⟨by rfl, ?_⟩, fun _ => rfl⟩ ?_
    rotate_left
    · intro w'
      go_simp
      try with_reducible rfl
    try simp only [Act.put, List.setIfInBounds_toArray, List.set_cons_zero, List.set_cons_succ]
    refine wpAnyIn_take (i := 13) (oi := { dst := some 26, op := Op.move (Operand.tmp 25), type := 4, pos := "sim.go:188", after := #[{ on := 12, ground := Ground.data }, { on := 11, ground := Ground.chain }], guard := none }) (v := ?_) rfl rfl (by kernel_rfl) (by kernel_rfl) (by kernel_rfl) (fun _ _ _ h => h) ⟨Or.inl ⟨by rfl, ?_⟩, fun _ => rfl⟩ ?_
    rotate_left
    · intro w'
      go_simp
      try with_reducible rfl
    try simp only [Act.put, List.setIfInBounds_toArray, List.set_cons_zero, List.set_cons_succ]
    refine wpAnyIn_take (i := 14) (oi := { dst := some 27, op := Op.load 142 (Operand.tmp 4), type := 142, pos := "sim.go:188", after := #[{ on := 13, ground := Ground.guard }], guard := some (13, true) }) (v := undef) rfl rfl (by kernel_rfl) (by kernel_rfl) (by kernel_rfl) (fun _ _ _ h => h) ⟨Or.inr ⟨by rfl, rfl⟩, fun _ => rfl⟩ ?_
    try simp only [Act.put, List.setIfInBounds_toArray, List.set_cons_zero, List.set_cons_succ]
    refine wpAnyIn_take (i := 15) (oi := { dst := some 28, op := Op.move (Operand.tmp 6), type := 144, pos := "sim.go:188", after := #[{ on := 13, ground := Ground.guard }], guard := some (13, true) }) (v := undef) rfl rfl (by kernel_rfl) (by kernel_rfl) (by kernel_rfl) (fun _ _ _ h => h) ⟨Or.inr ⟨by rfl, rfl⟩, fun _ => rfl⟩ ?_
    try simp only [Act.put, List.setIfInBounds_toArray, List.set_cons_zero, List.set_cons_succ]
    refine wpAnyIn_take (i := 16) (oi := { dst := some 29, op := Op.nilCheck (Operand.tmp 28), type := 0, pos := "sim.go:188", after := #[{ on := 15, ground := Ground.data }, { on := 13, ground := Ground.guard }], guard := some (13, true) }) (v := undef) rfl rfl (by kernel_rfl) (by kernel_rfl) (by kernel_rfl) (fun _ _ _ h => h) ⟨Or.inr ⟨by rfl, rfl⟩, fun _ => rfl⟩ ?_
    try simp only [Act.put, List.setIfInBounds_toArray, List.set_cons_zero, List.set_cons_succ]
    refine wpAnyIn_take (i := 17) (oi := { dst := some 30, op := Op.fieldAddr 102 (Operand.tmp 29) 2, type := 0, pos := "sim.go:188", after := #[{ on := 16, ground := Ground.data }, { on := 13, ground := Ground.guard }], guard := some (13, true) }) (v := undef) rfl rfl (by kernel_rfl) (by kernel_rfl) (by kernel_rfl) (fun _ _ _ h => h) ⟨Or.inr ⟨by rfl, rfl⟩, fun _ => rfl⟩ ?_
    try simp only [Act.put, List.setIfInBounds_toArray, List.set_cons_zero, List.set_cons_succ]
    refine wpAnyIn_take (i := 18) (oi := { dst := some 31, op := Op.load 3 (Operand.tmp 30), type := 3, pos := "sim.go:188", after := #[{ on := 17, ground := Ground.data }, { on := 13, ground := Ground.guard }], guard := some (13, true) }) (v := undef) rfl rfl (by kernel_rfl) (by kernel_rfl) (by kernel_rfl) (fun _ _ _ h => h) ⟨Or.inr ⟨by rfl, rfl⟩, fun _ => rfl⟩ ?_
    try simp only [Act.put, List.setIfInBounds_toArray, List.set_cons_zero, List.set_cons_succ]
    refine wpAnyIn_take (i := 19) (oi := { dst := some 32, op := Op.call { callee := Callee.value (Operand.tmp 27), args := #[Operand.tmp 31], argTypes := #[3] }, type := 4, pos := "sim.go:188", after := #[{ on := 14, ground := Ground.data }, { on := 18, ground := Ground.data }, { on := 13, ground := Ground.chain }, { on := 13, ground := Ground.guard }], guard := some (13, true) }) (v := undef) rfl rfl (by kernel_rfl) (by kernel_rfl) (by kernel_rfl) (fun _ _ _ h => h) ⟨Or.inr ⟨by rfl, rfl⟩, fun _ => rfl⟩ ?_
    try simp only [Act.put, List.setIfInBounds_toArray, List.set_cons_zero, List.set_cons_succ]
    refine wpAnyIn_take (i := 20) (oi := { dst := some 33, op := Op.unOp UnOp.not 4 (Operand.tmp 32), type := 4, pos := "sim.go:188", after := #[{ on := 19, ground := Ground.data }, { on := 13, ground := Ground.guard }], guard := some (13, true) }) (v := undef) rfl rfl (by kernel_rfl) (by kernel_rfl) (by kernel_rfl) (fun _ _ _ h => h) ⟨Or.inr ⟨by rfl, rfl⟩, fun _ => rfl⟩ ?_
    try simp only [Act.put, List.setIfInBounds_toArray, List.set_cons_zero, List.set_cons_succ]
    refine wpAnyIn_take (i := 21) (oi := { dst := some 34, op := Op.pick (Operand.tmp 26) (Operand.tmp 33) (Operand.const (Value.bool false)), type := 4, pos := "sim.go:188", after := #[{ on := 13, ground := Ground.data }, { on := 20, ground := Ground.data }], guard := none }) (v := ?_) rfl rfl (by kernel_rfl) (by kernel_rfl) (by kernel_rfl) (fun _ _ _ h => h) ⟨Or.inl ⟨by rfl, ?_⟩, fun _ => rfl⟩ ?_
    rotate_left
    · intro w'
      go_simp
      try with_reducible rfl
    try simp only [Act.put, List.setIfInBounds_toArray, List.set_cons_zero, List.set_cons_succ]
    refine wpAnyIn_done (by kernel_rfl) ?_ _
    refine NoPanic.normal ?_
    exact h.out _ (hD.trans B4)
  · refine wpI_ldg 5 wide_fn rfl (by rfl) rfl (ld5 (hC.out _ hD).2.2.2.1) (hK10 _ _ ?_)
    clear hK10 K10
    try simp only [Act.put, List.setIfInBounds_toArray, List.set_cons_zero, List.set_cons_succ]
    refine wpAnyIn_ready (rs := [9]) (by kernel_rfl) (by simp) ?_
    refine (AllReadyIn.cons (o := { dst := some 22, op := Op.load 24 (Operand.tmp 21), type := 24, pos := "sim.go:188", after := #[{ on := 8, ground := Ground.data }, { on := 5, ground := Ground.guard }], guard := some (5, true) }) rfl (fun K9 hK9 => ?_) AllReadyIn.nil)
    refine wpI_ldg 24 wide_fn rfl (by rfl) rfl ((hC.out _ hD).2.1) (hK9 _ _ ?_)
    clear hK9 K9
    try simp only [Act.put, List.setIfInBounds_toArray, List.set_cons_zero, List.set_cons_succ]
    refine wpAnyIn_ready (rs := [11]) (by kernel_rfl) (by simp) ?_
    refine (AllReadyIn.cons (o := { dst := some 24, op := Op.call { callee := Callee.value (Operand.func 85), args := #[Operand.tmp 22, Operand.tmp 23], argTypes := #[24, 5] }, type := 4, pos := "sim.go:188", after := #[{ on := 9, ground := Ground.data }, { on := 10, ground := Ground.data }, { on := 5, ground := Ground.chain }, { on := 5, ground := Ground.guard }], guard := some (5, true) }) rfl (fun K11 hK11 => ?_) AllReadyIn.nil)
    go_simp
    refine ⟨trivial, fun h => (by cases h), (callsIn_wide.2 (has86 q.s hs bt hbt _)).mono ?_⟩
    rintro e w4 ⟨rfl, B4⟩
    replace B4 : Below w.heap.size w.drew w4 := B4
    rw [hin]
    refine hK11 _ _ ?_
    clear hK11 K11
    try simp only [Act.put, List.setIfInBounds_toArray, List.set_cons_zero, List.set_cons_succ]
    refine wpAnyIn_take (i := 12) (oi := { dst := some 25, op := Op.pick (Operand.tmp 18) (Operand.tmp 24) (Operand.const (Value.bool false)), type := 4, pos := "sim.go:188", after := #[{ on := 5, ground := Ground.data }, { on := 11, ground := Ground.data }], guard := none }) (v := ?_) rfl rfl (by kernel_rfl) (by kernel_rfl) (by kernel_rfl) (fun _ _ _ h => h) ⟨Or.inl ⟨by rfl, ?_⟩, fun _ => rfl⟩ ?_
    rotate_left
    · intro w'
      go_simp
      try with_reducible rfl
    try simp only [Act.put, List.setIfInBounds_toArray, List.set_cons_zero, List.set_cons_succ]
    refine wpAnyIn_take (i := 13) (oi := { dst := some 26, op := Op.move (Operand.tmp 25), type := 4, pos := "sim.go:188", after := #[{ on := 12, ground := Ground.data }, { on := 11, ground := Ground.chain }], guard := none }) (v := ?_) rfl rfl (by kernel_rfl) (by kernel_rfl) (by kernel_rfl) (fun _ _ _ h => h) ⟨Or.inl ⟨by rfl, ?_⟩, fun _ => rfl⟩ ?_
    rotate_left
    · intro w'
      go_simp
      try with_reducible rfl
    try simp only [Act.put, List.setIfInBounds_toArray, List.set_cons_zero, List.set_cons_succ]
    refine wpAnyIn_take (i := 14) (oi := { dst := some 27, op := Op.load 142 (Operand.tmp 4), type := 142, pos := "sim.go:188", after := #[{ on := 13, ground := Ground.guard }], guard := some (13, true) }) (v := undef) rfl rfl (by kernel_rfl) (by kernel_rfl) (by kernel_rfl) (fun _ _ _ h => h) ⟨Or.inr ⟨by rfl, rfl⟩, fun _ => rfl⟩ ?_
    try simp only [Act.put, List.setIfInBounds_toArray, List.set_cons_zero, List.set_cons_succ]
    refine wpAnyIn_take (i := 15) (oi := { dst := some 28, op := Op.move (Operand.tmp 6), type := 144, pos := "sim.go:188", after := #[{ on := 13, ground := Ground.guard }], guard := some (13, true) }) (v := undef) rfl rfl (by kernel_rfl) (by kernel_rfl) (by kernel_rfl) (fun _ _ _ h => h) ⟨Or.inr ⟨by rfl, rfl⟩, fun _ => rfl⟩ ?_
    try simp only [Act.put, List.setIfInBounds_toArray, List.set_cons_zero, List.set_cons_succ]
    refine wpAnyIn_take (i := 16) (oi := { dst := some 29, op := Op.nilCheck (Operand.tmp 28), type := 0, pos := "sim.go:188", after := #[{ on := 15, ground := Ground.data }, { on := 13, ground := Ground.guard }], guard := some (13, true) }) (v := undef) rfl rfl (by kernel_rfl) (by kernel_rfl) (by kernel_rfl) (fun _ _ _ h => h) ⟨Or.inr ⟨by rfl, rfl⟩, fun _ => rfl⟩ ?_
    try simp only [Act.put, List.setIfInBounds_toArray, List.set_cons_zero, List.set_cons_succ]
    refine wpAnyIn_take (i := 17) (oi := { dst := some 30, op := Op.fieldAddr 102 (Operand.tmp 29) 2, type := 0, pos := "sim.go:188", after := #[{ on := 16, ground := Ground.data }, { on := 13, ground := Ground.guard }], guard := some (13, true) }) (v := undef) rfl rfl (by kernel_rfl) (by kernel_rfl) (by kernel_rfl) (fun _ _ _ h => h) ⟨Or.inr ⟨by rfl, rfl⟩, fun _ => rfl⟩ ?_
    try simp only [Act.put, List.setIfInBounds_toArray, List.set_cons_zero, List.set_cons_succ]
    refine wpAnyIn_take (i := 18) (oi := { dst := some 31, op := Op.load 3 (Operand.tmp 30), type := 3, pos := "sim.go:188", after := #[{ on := 17, ground := Ground.data }, { on := 13, ground := Ground.guard }], guard := some (13, true) }) (v := undef) rfl rfl (by kernel_rfl) (by kernel_rfl) (by kernel_rfl) (fun _ _ _ h => h) ⟨Or.inr ⟨by rfl, rfl⟩, fun _ => rfl⟩ ?_
    try simp only [Act.put, List.setIfInBounds_toArray, List.set_cons_zero, List.set_cons_succ]
    refine wpAnyIn_take (i := 19) (oi := { dst := some 32, op := Op.call { callee := Callee.value (Operand.tmp 27), args := #[Operand.tmp 31], argTypes := #[3] }, type := 4, pos := "sim.go:188", after := #[{ on := 14, ground := Ground.data }, { on := 18, ground := Ground.data }, { on := 13, ground := Ground.chain }, { on := 13, ground := Ground.guard }], guard := some (13, true) }) (v := undef) rfl rfl (by kernel_rfl) (by kernel_rfl) (by kernel_rfl) (fun _ _ _ h => h) ⟨Or.inr ⟨by rfl, rfl⟩, fun _ => rfl⟩ ?_
    try simp only [Act.put, List.setIfInBounds_toArray, List.set_cons_zero, List.set_cons_succ]
    refine wpAnyIn_take (i := 20) (oi := { dst := some 33, op := Op.unOp UnOp.not 4 (Operand.tmp 32), type := 4, pos := "sim.go:188", after := #[{ on := 19, ground := Ground.data }, { on := 13, ground := Ground.guard }], guard := some (13, true) }) (v := undef) rfl rfl (by kernel_rfl) (by kernel_rfl) (by kernel_rfl) (fun _ _ _ h => h) ⟨Or.inr ⟨by rfl, rfl⟩, fun _ => rfl⟩ ?_
    try simp only [Act.put, List.setIfInBounds_toArray, List.set_cons_zero, List.set_cons_succ]
    refine wpAnyIn_take (i := 21) (oi := { dst := some 34, op := Op.pick (Operand.tmp 26) (Operand.tmp 33) (Operand.const (Value.bool false)), type := 4, pos := "sim.go:188", after := #[{ on := 13, ground := Ground.data }, { on := 20, ground := Ground.data }], guard := none }) (v := ?_) rfl rfl (by kernel_rfl) (by kernel_rfl) (by kernel_rfl) (fun _ _ _ h => h) ⟨Or.inl ⟨by rfl, ?_⟩, fun _ => rfl⟩ ?_
    rotate_left
    · intro w'
      go_simp
      try with_reducible rfl
    try simp only [Act.put, List.setIfInBounds_toArray, List.set_cons_zero, List.set_cons_succ]
    refine wpAnyIn_done (by kernel_rfl) ?_ _
    refine NoPanic.normal ?_
    exact h.out _ (hD.trans B4)
set_option maxHeartbeats 4000000 in
set_option maxRecDepth 100000 in
theorem reg85_c (l0 n0 : Nat) (w : World) (b o gb gy l : Nat) (q : Ins) (bt : Nat) (hC0 : ∀ w', Below w.heap.size w w' → w'.cell? ⟨b, o, none⟩ = some (.int .i64 q.op) ∧ (loadVar 24 ⟨b, o + 1, none⟩).run Tryz.prog w' = .ok (setV q.s) w' ∧ w'.cell? ⟨b, o + 5, none⟩ = some (.int .i64 q.x) ∧ w'.cell? ⟨gb, 0, none⟩ = some (.int .u8 (bt : Int)) ∧ w'.cell? ⟨gy, 0, none⟩ = some (.func (.yield l) #[] #[])) (hop : (q.op == 1) = true) (hs : OkS q.s) (hbt : bt < 256) (hin : inS q.s bt = true) (R : Ending → World → Prop) (hY0 : ∀ w', Below w.heap.size w w' → YieldAt Fence.wide (n0 - 1) Tryz.prog l #[.int .i64 q.x] w' R)
    (u0 u1 u2 u5 u7 u8 u9 u10 u11 u12 u13 u14 u15 u16 u17 u18 u19 u20 u21 u22 u23 u24 u25 u26 u27 u28 u29 u30 u31 u32 u33 u34 : Value) (Q : Exit → Act → World → Prop)
    (h : ∀ e W', R e W' → ∃ bb, e = .returned (.bool bb) ∧ Q .normal { tmps := (List.toArray ((u0 :: u1 :: u2 :: .pointer (some ⟨gb, 0, none⟩) :: .pointer (some ⟨gy, 0, none⟩) :: u5 :: .pointer (some ⟨b, o, none⟩) :: u7 :: u8 :: u9 :: u10 :: u11 :: u12 :: .pointer (some ⟨b, o, none⟩) :: .pointer (some ⟨b, o, none⟩) :: .pointer (some ⟨b, o, none⟩) :: .int .i64 q.op :: .bool true :: .bool true :: .pointer (some ⟨b, o, none⟩) :: .pointer (some ⟨b, o, none⟩) :: .pointer (some ⟨b, o + 1, none⟩) :: setV q.s :: .int .u8 (bt : Int) :: .bool true :: .bool true :: .bool true :: .func (.yield l) #[] #[] :: .pointer (some ⟨b, o, none⟩) :: .pointer (some ⟨b, o, none⟩) :: .pointer (some ⟨b, o + 5, none⟩) :: .int .i64 q.x :: .bool bb :: .bool (!bb) :: .bool (!bb) :: []) : List Value)), defers := [] } W') :
    (Code.region 4 #[{ dst := some 13, op := Op.move (Operand.tmp 6), type := 144, pos := "sim.go:188", after := #[], guard := none }, { dst := some 14, op := Op.nilCheck (Operand.tmp 13), type := 0, pos := "sim.go:188", after := #[{ on := 0, ground := Ground.data }], guard := none }, { dst := some 15, op := Op.fieldAddr 102 (Operand.tmp 14) 0, type := 0, pos := "sim.go:188", after := #[{ on := 1, ground := Ground.data }], guard := none }, { dst := some 16, op := Op.load 3 (Operand.tmp 15), type := 3, pos := "sim.go:188", after := #[{ on := 2, ground := Ground.data }], guard := none }, { dst := some 17, op := Op.binOp BinOp.eql 3 (Operand.tmp 16) (Operand.const (Value.int IntKind.i64 1)) 3, type := 4, pos := "sim.go:188", after := #[{ on := 3, ground := Ground.data }], guard := none }, { dst := some 18, op := Op.move (Operand.tmp 17), type := 4, pos := "sim.go:188", after := #[{ on := 4, ground := Ground.data }], guard := none }, { dst := some 19, op := Op.move (Operand.tmp 6), type := 144, pos := "sim.go:188", after := #[{ on := 5, ground := Ground.guard }], guard := some (5, true) }, { dst := some 20, op := Op.nilCheck (Operand.tmp 19), type := 0, pos := "sim.go:188", after := #[{ on := 6, ground := Ground.data }, { on := 5, ground := Ground.guard }], guard := some (5, true) }, { dst := some 21, op := Op.fieldAddr 102 (Operand.tmp 20) 1, type := 0, pos := "sim.go:188", after := #[{ on := 7, ground := Ground.data }, { on := 5, ground := Ground.guard }], guard := some (5, true) }, { dst := some 22, op := Op.load 24 (Operand.tmp 21), type := 24, pos := "sim.go:188", after := #[{ on := 8, ground := Ground.data }, { on := 5, ground := Ground.guard }], guard := some (5, true) }, { dst := some 23, op := Op.load 5 (Operand.tmp 3), type := 5, pos := "sim.go:188", after := #[{ on := 5, ground := Ground.guard }], guard := some (5, true) }, { dst := some 24, op := Op.call { callee := Callee.value (Operand.func 85), args := #[Operand.tmp 22, Operand.tmp 23], argTypes := #[24, 5] }, type := 4, pos := "sim.go:188", after := #[{ on := 9, ground := Ground.data }, { on := 10, ground := Ground.data }, { on := 5, ground := Ground.chain }, { on := 5, ground := Ground.guard }], guard := some (5, true) }, { dst := some 25, op := Op.pick (Operand.tmp 18) (Operand.tmp 24) (Operand.const (Value.bool false)), type := 4, pos := "sim.go:188", after := #[{ on := 5, ground := Ground.data }, { on := 11, ground := Ground.data }], guard := none }, { dst := some 26, op := Op.move (Operand.tmp 25), type := 4, pos := "sim.go:188", after := #[{ on := 12, ground := Ground.data }, { on := 11, ground := Ground.chain }], guard := none }, { dst := some 27, op := Op.load 142 (Operand.tmp 4), type := 142, pos := "sim.go:188", after := #[{ on := 13, ground := Ground.guard }], guard := some (13, true) }, { dst := some 28, op := Op.move (Operand.tmp 6), type := 144, pos := "sim.go:188", after := #[{ on := 13, ground := Ground.guard }], guard := some (13, true) }, { dst := some 29, op := Op.nilCheck (Operand.tmp 28), type := 0, pos := "sim.go:188", after := #[{ on := 15, ground := Ground.data }, { on := 13, ground := Ground.guard }], guard := some (13, true) }, { dst := some 30, op := Op.fieldAddr 102 (Operand.tmp 29) 2, type := 0, pos := "sim.go:188", after := #[{ on := 16, ground := Ground.data }, { on := 13, ground := Ground.guard }], guard := some (13, true) }, { dst := some 31, op := Op.load 3 (Operand.tmp 30), type := 3, pos := "sim.go:188", after := #[{ on := 17, ground := Ground.data }, { on := 13, ground := Ground.guard }], guard := some (13, true) }, { dst := some 32, op := Op.call { callee := Callee.value (Operand.tmp 27), args := #[Operand.tmp 31], argTypes := #[3] }, type := 4, pos := "sim.go:188", after := #[{ on := 14, ground := Ground.data }, { on := 18, ground := Ground.data }, { on := 13, ground := Ground.chain }, { on := 13, ground := Ground.guard }], guard := some (13, true) }, { dst := some 33, op := Op.unOp UnOp.not 4 (Operand.tmp 32), type := 4, pos := "sim.go:188", after := #[{ on := 19, ground := Ground.data }, { on := 13, ground := Ground.guard }], guard := some (13, true) }, { dst := some 34, op := Op.pick (Operand.tmp 26) (Operand.tmp 33) (Operand.const (Value.bool false)), type := 4, pos := "sim.go:188", after := #[{ on := 13, ground := Ground.data }, { on := 20, ground := Ground.data }], guard := none }] true).wpIn (Fence.wide.inRound l0) n0 Tryz.prog Q { tmps := (List.toArray ((u0 :: u1 :: u2 :: .pointer (some ⟨gb, 0, none⟩) :: .pointer (some ⟨gy, 0, none⟩) :: u5 :: .pointer (some ⟨b, o, none⟩) :: u7 :: u8 :: u9 :: u10 :: u11 :: u12 :: u13 :: u14 :: u15 :: u16 :: u17 :: u18 :: u19 :: u20 :: u21 :: u22 :: u23 :: u24 :: u25 :: u26 :: u27 :: u28 :: u29 :: u30 :: u31 :: u32 :: u33 :: u34 :: []) : List Value)), defers := [] } w := by
  have hD : Below w.heap.size w w.drew := (Below.refl _ w).drew
  have hC := hide hC0
  clear hC0
  have hY := hide hY0
  clear hY0
  replace h := hide h
  refine Code.wpIn_mono NoPanic.imp ?_
  refine wpIn_region_any (by kernel_rfl) ?_
  change wpAnyIn _ _ _ _ _ _ _ _ _ (World.drew w)
  refine anyIn_inRound l0 (noDefer _ (by kernel_rfl)) _ _ _ _ ?_
  refine wpAnyIn_take (i := 0) (oi := { dst := some 13, op := Op.move (Operand.tmp 6), type := 144, pos := "sim.go:188", after := #[], guard := none }) (v := ?_) rfl rfl (by kernel_rfl) (by kernel_rfl) (by kernel_rfl) (fun _ _ _ h => h) ⟨Or.inl ⟨by rfl, ?_⟩, fun _ => rfl⟩ ?_
  rotate_left
  · intro w'
    go_simp
    try with_reducible rfl
  try simp only [Act.put, List.setIfInBounds_toArray, List.set_cons_zero, List.set_cons_succ]
  refine wpAnyIn_take (i := 1) (oi := { dst := some 14, op := Op.nilCheck (Operand.tmp 13), type := 0, pos := "sim.go:188", after := #[{ on := 0, ground := Ground.data }], guard := none }) (v := ?_) rfl rfl (by kernel_rfl) (by kernel_rfl) (by kernel_rfl) (fun _ _ _ h => h) ⟨Or.inl ⟨by rfl, ?_⟩, fun _ => rfl⟩ ?_
  rotate_left
  · intro w'
    go_simp
    try with_reducible rfl
  try simp only [Act.put, List.setIfInBounds_toArray, List.set_cons_zero, List.set_cons_succ]
  refine wpAnyIn_take (i := 2) (oi := { dst := some 15, op := Op.fieldAddr 102 (Operand.tmp 14) 0, type := 0, pos := "sim.go:188", after := #[{ on := 1, ground := Ground.data }], guard := none }) (v := ?_) rfl rfl (by kernel_rfl) (by kernel_rfl) (by kernel_rfl) (fun _ _ _ h => h) ⟨Or.inl ⟨by rfl, ?_⟩, fun _ => rfl⟩ ?_
  rotate_left
  · intro w'
    go_simp
    try with_reducible rfl
  try simp only [Act.put, List.setIfInBounds_toArray, List.set_cons_zero, List.set_cons_succ]
  refine wpAnyIn_ready (rs := [3]) (by kernel_rfl) (by simp) ?_
  refine (AllReadyIn.cons (o := { dst := some 16, op := Op.load 3 (Operand.tmp 15), type := 3, pos := "sim.go:188", after := #[{ on := 2, ground := Ground.data }], guard := none }) rfl (fun K3 hK3 => ?_) AllReadyIn.nil)
  refine wpI_ldg 3 wide_fn rfl (by rfl) rfl (ld3 (hC.out _ hD).1) (hK3 _ _ ?_)
  clear hK3 K3
  try simp only [Act.put, List.setIfInBounds_toArray, List.set_cons_zero, List.set_cons_succ]
  refine wpAnyIn_take (i := 4) (oi := { dst := some 17, op := Op.binOp BinOp.eql 3 (Operand.tmp 16) (Operand.const (Value.int IntKind.i64 1)) 3, type := 4, pos := "sim.go:188", after := #[{ on := 3, ground := Ground.data }], guard := none }) (v := ?_) rfl rfl (by kernel_rfl) (by kernel_rfl) (by kernel_rfl) (fun _ _ _ h => h) ⟨Or.inl ⟨by rfl, ?_⟩, fun _ => rfl⟩ ?_
  rotate_left
  · intro w'
    go_simp
    try with_reducible rfl
  try simp only [Act.put, List.setIfInBounds_toArray, List.set_cons_zero, List.set_cons_succ]
  refine wpAnyIn_take (i := 5) (oi := { dst := some 18, op := Op.move (Operand.tmp 17), type := 4, pos := "sim.go:188", after := #[{ on := 4, ground := Ground.data }], guard := none }) (v := ?_) rfl rfl (by kernel_rfl) (by kernel_rfl) (by kernel_rfl) (fun _ _ _ h => h) ⟨Or.inl ⟨by rfl, ?_⟩, fun _ => rfl⟩ ?_
  rotate_left
  · intro w'
    go_simp
    try with_reducible rfl
  try simp only [Act.put, List.setIfInBounds_toArray, List.set_cons_zero, List.set_cons_succ]
  refine wpAnyIn_take (i := 6) (oi := { dst := some 19, op := Op.move (Operand.tmp 6), type := 144, pos := "sim.go:188", after := #[{ on := 5, ground := Ground.guard }], guard := some (5, true) }) (v := ?_) rfl rfl (by kernel_rfl) (by kernel_rfl) (by kernel_rfl) (fun _ _ _ h => h) ⟨Or.inl ⟨by rfl, ?_⟩, fun _ => rfl⟩ ?_
  rotate_left
  · intro w'
    go_simp
    try with_reducible rfl
  try simp only [Act.put, List.setIfInBounds_toArray, List.set_cons_zero, List.set_cons_succ]
  refine wpAnyIn_take (i := 7) (oi := { dst := some 20, op := Op.nilCheck (Operand.tmp 19), type := 0, pos := "sim.go:188", after := #[{ on := 6, ground := Ground.data }, { on := 5, ground := Ground.guard }], guard := some (5, true) }) (v := ?_) rfl rfl (by kernel_rfl) (by kernel_rfl) (by kernel_rfl) (fun _ _ _ h => h) ⟨Or.inl ⟨by rfl, ?_⟩, fun _ => rfl⟩ ?_
  rotate_left
  · intro w'
    go_simp
    try with_reducible rfl
  try simp only [Act.put, List.setIfInBounds_toArray, List.set_cons_zero, List.set_cons_succ]
  refine wpAnyIn_take (i := 8) (oi := { dst := some 21, op := Op.fieldAddr 102 (Operand.tmp 20) 1, type := 0, pos := "sim.go:188", after := #[{ on := 7, ground := Ground.data }, { on := 5, ground := Ground.guard }], guard := some (5, true) }) (v := ?_) rfl rfl (by kernel_rfl) (by kernel_rfl) (by kernel_rfl) (fun _ _ _ h => h) ⟨Or.inl ⟨by rfl, ?_⟩, fun _ => rfl⟩ ?_
  rotate_left
  · intro w'
    go_simp
    try with_reducible rfl
  try simp only [Act.put, List.setIfInBounds_toArray, List.set_cons_zero, List.set_cons_succ]
  refine wpAnyIn_ready (rs := [9, 10]) (by kernel_rfl) (by simp) ?_
  refine (AllReadyIn.cons (o := { dst := some 22, op := Op.load 24 (Operand.tmp 21), type := 24, pos := "sim.go:188", after := #[{ on := 8, ground := Ground.data }, { on := 5, ground := Ground.guard }], guard := some (5, true) }) rfl (fun K9 hK9 => ?_) (AllReadyIn.cons (o := { dst := some 23, op := Op.load 5 (Operand.tmp 3), type := 5, pos := "sim.go:188", after := #[{ on := 5, ground := Ground.guard }], guard := some (5, true) }) rfl (fun K10 hK10 => ?_) AllReadyIn.nil))
  · refine wpI_ldg 24 wide_fn rfl (by rfl) rfl ((hC.out _ hD).2.1) (hK9 _ _ ?_)
    clear hK9 K9
    try simp only [Act.put, List.setIfInBounds_toArray, List.set_cons_zero, List.set_cons_succ]
    refine wpAnyIn_ready (rs := [10]) (by kernel_rfl) (by simp) ?_
    refine (AllReadyIn.cons (o := { dst := some 23, op := Op.load 5 (Operand.tmp 3), type := 5, pos := "sim.go:188", after := #[{ on := 5, ground := Ground.guard }], guard := some (5, true) }) rfl (fun K10 hK10 => ?_) AllReadyIn.nil)
    refine wpI_ldg 5 wide_fn rfl (by rfl) rfl (ld5 (hC.out _ hD).2.2.2.1) (hK10 _ _ ?_)
    clear hK10 K10
    try simp only [Act.put, List.setIfInBounds_toArray, List.set_cons_zero, List.set_cons_succ]
    refine wpAnyIn_ready (rs := [11]) (by kernel_rfl) (by simp) ?_
    refine (AllReadyIn.cons (o := { dst := some 24, op := Op.call { callee := Callee.value (Operand.func 85), args := #[Operand.tmp 22, Operand.tmp 23], argTypes := #[24, 5] }, type := 4, pos := "sim.go:188", after := #[{ on := 9, ground := Ground.data }, { on := 10, ground := Ground.data }, { on := 5, ground := Ground.chain }, { on := 5, ground := Ground.guard }], guard := some (5, true) }) rfl (fun K11 hK11 => ?_) AllReadyIn.nil)
    go_simp
    refine ⟨trivial, fun h => (by cases h), (callsIn_wide.2 (has86 q.s hs bt hbt _)).mono ?_⟩
    rintro e w4 ⟨rfl, B4⟩
    replace B4 : Below w.heap.size w.drew w4 := B4
    rw [hin]
    refine hK11 _ _ ?_
    clear hK11 K11
    try simp only [Act.put, List.setIfInBounds_toArray, List.set_cons_zero, List.set_cons_succ]
    refine wpAnyIn_take (i := 12) (oi := { dst := some 25, op := Op.pick (Operand.tmp 18) (Operand.tmp 24) (Operand.const (Value.bool false)), type := 4, pos := "sim.go:188", after := #[{ on := 5, ground := Ground.data }, { on := 11, ground := Ground.data }], guard := none }) (v := ?_) rfl rfl (by kernel_rfl) (by kernel_rfl) (by kernel_rfl) (fun _ _ _ h => h) ⟨Or.inl ⟨by rfl, ?_⟩, fun _ => rfl⟩ ?_
    rotate_left
    · intro w'
      go_simp
      try with_reducible rfl
    try simp only [Act.put, List.setIfInBounds_toArray, List.set_cons_zero, List.set_cons_succ]
    refine wpAnyIn_take (i := 13) (oi := { dst := some 26, op := Op.move (Operand.tmp 25), type := 4, pos := "sim.go:188", after := #[{ on := 12, ground := Ground.data }, { on := 11, ground := Ground.chain }], guard := none }) (v := ?_) rfl rfl (by kernel_rfl) (by kernel_rfl) (by kernel_rfl) (fun _ _ _ h => h) ⟨Or.inl ⟨by rfl, ?_⟩, fun _ => rfl⟩ ?_
    rotate_left
    · intro w'
      go_simp
      try with_reducible rfl
    try simp only [Act.put, List.setIfInBounds_toArray, List.set_cons_zero, List.set_cons_succ]
    refine wpAnyIn_take (i := 15) (oi := { dst := some 28, op := Op.move (Operand.tmp 6), type := 144, pos := "sim.go:188", after := #[{ on := 13, ground := Ground.guard }], guard := some (13, true) }) (v := ?_) rfl rfl (by kernel_rfl) (by kernel_rfl) (by kernel_rfl) (fun _ _ _ h => h) ⟨Or.inl ⟨by rfl, ?_⟩, fun _ => rfl⟩ ?_
    rotate_left
    · intro w'
      go_simp
      try with_reducible rfl
    try simp only [Act.put, List.setIfInBounds_toArray, List.set_cons_zero, List.set_cons_succ]
    refine wpAnyIn_take (i := 16) (oi := { dst := some 29, op := Op.nilCheck (Operand.tmp 28), type := 0, pos := "sim.go:188", after := #[{ on := 15, ground := Ground.data }, { on := 13, ground := Ground.guard }], guard := some (13, true) }) (v := ?_) rfl rfl (by kernel_rfl) (by kernel_rfl) (by kernel_rfl) (fun _ _ _ h => h) ⟨Or.inl ⟨by rfl, ?_⟩, fun _ => rfl⟩ ?_
    rotate_left
    · intro w'
      go_simp
      try with_reducible rfl
    try simp only [Act.put, List.setIfInBounds_toArray, List.set_cons_zero, List.set_cons_succ]
    refine wpAnyIn_take (i := 17) (oi := { dst := some 30, op := Op.fieldAddr 102 (Operand.tmp 29) 2, type := 0, pos := "sim.go:188", after := #[{ on := 16, ground := Ground.data }, { on := 13, ground := Ground.guard }], guard := some (13, true) }) (v := ?_) rfl rfl (by kernel_rfl) (by kernel_rfl) (by kernel_rfl) (fun _ _ _ h => h) ⟨Or.inl ⟨by rfl, ?_⟩, fun _ => rfl⟩ ?_
    rotate_left
    · intro w'
      go_simp
      try with_reducible rfl
    try simp only [Act.put, List.setIfInBounds_toArray, List.set_cons_zero, List.set_cons_succ]
    refine wpAnyIn_ready (rs := [14, 18]) (by kernel_rfl) (by simp) ?_
    refine (AllReadyIn.cons (o := { dst := some 27, op := Op.load 142 (Operand.tmp 4), type := 142, pos := "sim.go:188", after := #[{ on := 13, ground := Ground.guard }], guard := some (13, true) }) rfl (fun K14 hK14 => ?_) (AllReadyIn.cons (o := { dst := some 31, op := Op.load 3 (Operand.tmp 30), type := 3, pos := "sim.go:188", after := #[{ on := 17, ground := Ground.data }, { on := 13, ground := Ground.guard }], guard := some (13, true) }) rfl (fun K18 hK18 => ?_) AllReadyIn.nil))
    · refine wpI_ldg 142 wide_fn rfl (by rfl) rfl (ld129 (hC.out _ (hD.trans B4)).2.2.2.2) (hK14 _ _ ?_)
      clear hK14 K14
      try simp only [Act.put, List.setIfInBounds_toArray, List.set_cons_zero, List.set_cons_succ]
      refine wpAnyIn_ready (rs := [18]) (by kernel_rfl) (by simp) ?_
      refine (AllReadyIn.cons (o := { dst := some 31, op := Op.load 3 (Operand.tmp 30), type := 3, pos := "sim.go:188", after := #[{ on := 17, ground := Ground.data }, { on := 13, ground := Ground.guard }], guard := some (13, true) }) rfl (fun K18 hK18 => ?_) AllReadyIn.nil)
      refine wpI_ldg 3 wide_fn rfl (by rfl) rfl (ld3 (hC.out _ (hD.trans B4)).2.2.1) (hK18 _ _ ?_)
      clear hK18 K18
      try simp only [Act.put, List.setIfInBounds_toArray, List.set_cons_zero, List.set_cons_succ]
      refine wpAnyIn_ready (rs := [19]) (by kernel_rfl) (by simp) ?_
      refine (AllReadyIn.cons (o := { dst := some 32, op := Op.call { callee := Callee.value (Operand.tmp 27), args := #[Operand.tmp 31], argTypes := #[3] }, type := 4, pos := "sim.go:188", after := #[{ on := 14, ground := Ground.data }, { on := 18, ground := Ground.data }, { on := 13, ground := Ground.chain }, { on := 13, ground := Ground.guard }], guard := some (13, true) }) rfl (fun K19 hK19 => ?_) AllReadyIn.nil)
      obtain ⟨fn, tmps, assign, body, hy, hR⟩ := hY.out w4 (hD.trans B4)
      go_simp
      refine ⟨fun h => (by cases h), hR.mono ?_⟩
      rintro e W3 hRe
      obtain ⟨bb, rfl, hq⟩ := h.out _ _ hRe
      refine hK19 _ _ ?_
      clear hK19 K19
      try simp only [Act.put, List.setIfInBounds_toArray, List.set_cons_zero, List.set_cons_succ]
      refine wpAnyIn_take (i := 20) (oi := { dst := some 33, op := Op.unOp UnOp.not 4 (Operand.tmp 32), type := 4, pos := "sim.go:188", after := #[{ on := 19, ground := Ground.data }, { on := 13, ground := Ground.guard }], guard := some (13, true) }) (v := ?_) rfl rfl (by kernel_rfl) (by kernel_rfl) (by kernel_rfl) (fun _ _ _ h => h) ⟨Or.inl ⟨by rfl, ?_⟩, fun _ => rfl⟩ ?_
      rotate_left
      · intro w'
        go_simp
        try with_reducible rfl
      try simp only [Act.put, List.setIfInBounds_toArray, List.set_cons_zero, List.set_cons_succ]
      refine wpAnyIn_take (i := 21) (oi := { dst := some 34, op := Op.pick (Operand.tmp 26) (Operand.tmp 33) (Operand.const (Value.bool false)), type := 4, pos := "sim.go:188", after := #[{ on := 13, ground := Ground.data }, { on := 20, ground := Ground.data }], guard := none }) (v := ?_) rfl rfl (by kernel_rfl) (by kernel_rfl) (by kernel_rfl) (fun _ _ _ h => h) ⟨Or.inl ⟨by rfl, ?_⟩, fun _ => rfl⟩ ?_
      rotate_left
      · intro w'
        go_simp
        try with_reducible rfl
      try simp only [Act.put, List.setIfInBounds_toArray, List.set_cons_zero, List.set_cons_succ]
      refine wpAnyIn_done (by kernel_rfl) ?_ _
      refine NoPanic.normal ?_
      exact hq
    · refine wpI_ldg 3 wide_fn rfl (by rfl) rfl (ld3 (hC.out _ (hD.trans B4)).2.2.1) (hK18 _ _ ?_)
      clear hK18 K18
      try simp only [Act.put, List.setIfInBounds_toArray, List.set_cons_zero, List.set_cons_succ]
      refine wpAnyIn_ready (rs := [14]) (by kernel_rfl) (by simp) ?_
      refine (AllReadyIn.cons (o := { dst := some 27, op := Op.load 142 (Operand.tmp 4), type := 142, pos := "sim.go:188", after := #[{ on := 13, ground := Ground.guard }], guard := some (13, true) }) rfl (fun K14 hK14 => ?_) AllReadyIn.nil)
      refine wpI_ldg 142 wide_fn rfl (by rfl) rfl (ld129 (hC.out _ (hD.trans B4)).2.2.2.2) (hK14 _ _ ?_)
      clear hK14 K14
      try simp only [Act.put, List.setIfInBounds_toArray, List.set_cons_zero, List.set_cons_succ]
      refine wpAnyIn_ready (rs := [19]) (by kernel_rfl) (by simp) ?_
      refine (AllReadyIn.cons (o := { dst := some 32, op := Op.call { callee := Callee.value (Operand.tmp 27), args := #[Operand.tmp 31], argTypes := #[3] }, type := 4, pos := "sim.go:188", after := #[{ on := 14, ground := Ground.data }, { on := 18, ground := Ground.data }, { on := 13, ground := Ground.chain }, { on := 13, ground := Ground.guard }], guard := some (13, true) }) rfl (fun K19 hK19 => ?_) AllReadyIn.nil)
      obtain ⟨fn, tmps, assign, body, hy, hR⟩ := hY.out w4 (hD.trans B4)
      go_simp
      refine ⟨fun h => (by cases h), hR.mono ?_⟩
      rintro e W3 hRe
      obtain ⟨bb, rfl, hq⟩ := h.out _ _ hRe
      refine hK19 _ _ ?_
      clear hK19 K19
      try simp only [Act.put, List.setIfInBounds_toArray, List.set_cons_zero, List.set_cons_succ]
      refine wpAnyIn_take (i := 20) (oi := { dst := some 33, op := Op.unOp UnOp.not 4 (Operand.tmp 32), type := 4, pos := "sim.go:188", after := #[{ on := 19, ground := Ground.data }, { on := 13, ground := Ground.guard }], guard := some (13, true) }) (v := ?_) rfl rfl (by kernel_rfl) (by kernel_rfl) (by kernel_rfl) (fun _ _ _ h => h) ⟨Or.inl ⟨by rfl, ?_⟩, fun _ => rfl⟩ ?_
      rotate_left
      · intro w'
        go_simp
        try with_reducible rfl
      try simp only [Act.put, List.setIfInBounds_toArray, List.set_cons_zero, List.set_cons_succ]
      refine wpAnyIn_take (i := 21) (oi := { dst := some 34, op := Op.pick (Operand.tmp 26) (Operand.tmp 33) (Operand.const (Value.bool false)), type := 4, pos := "sim.go:188", after := #[{ on := 13, ground := Ground.data }, { on := 20, ground := Ground.data }], guard := none }) (v := ?_) rfl rfl (by kernel_rfl) (by kernel_rfl) (by kernel_rfl) (fun _ _ _ h => h) ⟨Or.inl ⟨by rfl, ?_⟩, fun _ => rfl⟩ ?_
      rotate_left
      · intro w'
        go_simp
        try with_reducible rfl
      try simp only [Act.put, List.setIfInBounds_toArray, List.set_cons_zero, List.set_cons_succ]
      refine wpAnyIn_done (by kernel_rfl) ?_ _
      refine NoPanic.normal ?_
      exact hq
  · refine wpI_ldg 5 wide_fn rfl (by rfl) rfl (ld5 (hC.out _ hD).2.2.2.1) (hK10 _ _ ?_)
    clear hK10 K10
    try simp only [Act.put, List.setIfInBounds_toArray, List.set_cons_zero, List.set_cons_succ]
    refine wpAnyIn_ready (rs := [9]) (by kernel_rfl) (by simp) ?_
    refine (AllReadyIn.cons (o := { dst := some 22, op := Op.load 24 (Operand.tmp 21), type := 24, pos := "sim.go:188", after := #[{ on := 8, ground := Ground.data }, { on := 5, ground := Ground.guard }], guard := some (5, true) }) rfl (fun K9 hK9 => ?_) AllReadyIn.nil)
    refine wpI_ldg 24 wide_fn rfl (by rfl) rfl ((hC.out _ hD).2.1) (hK9 _ _ ?_)
    clear hK9 K9
    try simp only [Act.put, List.setIfInBounds_toArray, List.set_cons_zero, List.set_cons_succ]
    refine wpAnyIn_ready (rs := [11]) (by kernel_rfl) (by simp) ?_
    refine (AllReadyIn.cons (o := { dst := some 24, op := Op.call { callee := Callee.value (Operand.func 85), args := #[Operand.tmp 22, Operand.tmp 23], argTypes := #[24, 5] }, type := 4, pos := "sim.go:188", after := #[{ on := 9, ground := Ground.data }, { on := 10, ground := Ground.data }, { on := 5, ground := Ground.chain }, { on := 5, ground := Ground.guard }], guard := some (5, true) }) rfl (fun K11 hK11 => ?_) AllReadyIn.nil)
    go_simp
    refine ⟨trivial, fun h => (by cases h), (callsIn_wide.2 (has86 q.s hs bt hbt _)).mono ?_⟩
    rintro e w4 ⟨rfl, B4⟩
    replace B4 : Below w.heap.size w.drew w4 := B4
    rw [hin]
    refine hK11 _ _ ?_
    clear hK11 K11
    try simp only [Act.put, List.setIfInBounds_toArray, List.set_cons_zero, List.set_cons_succ]
    refine wpAnyIn_take (i := 12) (oi := { dst := some 25, op := Op.pick (Operand.tmp 18) (Operand.tmp 24) (Operand.const (Value.bool false)), type := 4, pos := "sim.go:188", after := #[{ on := 5, ground := Ground.data }, { on := 11, ground := Ground.data }], guard := none }) (v := ?_) rfl rfl (by kernel_rfl) (by kernel_rfl) (by kernel_rfl) (fun _ _ _ h => h) ⟨Or.inl ⟨by rfl, ?_⟩, fun _ => rfl⟩ ?_
    rotate_left
    · intro w'
      go_simp
      try with_reducible rfl
    try simp only [Act.put, List.setIfInBounds_toArray, List.set_cons_zero, List.set_cons_succ]
    refine wpAnyIn_take (i := 13) (oi := { dst := some 26, op := Op.move (Operand.tmp 25), type := 4, pos := "sim.go:188", after := #[{ on := 12, ground := Ground.data }, { on := 11, ground := Ground.chain }], guard := none }) (v := ?_) rfl rfl (by kernel_rfl) (by kernel_rfl) (by kernel_rfl) (fun _ _ _ h => h) ⟨Or.inl ⟨by rfl, ?_⟩, fun _ => rfl⟩ ?_
    rotate_left
    · intro w'
      go_simp
      try with_reducible rfl
    try simp only [Act.put, List.setIfInBounds_toArray, List.set_cons_zero, List.set_cons_succ]
    refine wpAnyIn_take (i := 15) (oi := { dst := some 28, op := Op.move (Operand.tmp 6), type := 144, pos := "sim.go:188", after := #[{ on := 13, ground := Ground.guard }], guard := some (13, true) }) (v := ?_) rfl rfl (by kernel_rfl) (by kernel_rfl) (by kernel_rfl) (fun _ _ _ h => h) ⟨Or.inl ⟨by rfl, ?_⟩, fun _ => rfl⟩ ?_
    rotate_left
    · intro w'
      go_simp
      try with_reducible rfl
    try simp only [Act.put, List.setIfInBounds_toArray, List.set_cons_zero, List.set_cons_succ]
    refine wpAnyIn_take (i := 16) (oi := { dst := some 29, op := Op.nilCheck (Operand.tmp 28), type := 0, pos := "sim.go:188", after := #[{ on := 15, ground := Ground.data }, { on := 13, ground := Ground.guard }], guard := some (13, true) }) (v := ?_) rfl rfl (by kernel_rfl) (by kernel_rfl) (by kernel_rfl) (fun _ _ _ h => h) ⟨Or.inl ⟨by rfl, ?_⟩, fun _ => rfl⟩ ?_
    rotate_left
    · intro w'
      go_simp
      try with_reducible rfl
    try simp only [Act.put, List.setIfInBounds_toArray, List.set_cons_zero, List.set_cons_succ]
    refine wpAnyIn_take (i := 17) (oi := { dst := some 30, op := Op.fieldAddr 102 (Operand.tmp 29) 2, type := 0, pos := "sim.go:188", after := #[{ on := 16, ground := Ground.data }, { on := 13, ground := Ground.guard }], guard := some (13, true) }) (v := ?_) rfl rfl (by kernel_rfl) (by kernel_rfl) (by kernel_rfl) (fun _ _ _ h => h) ⟨Or.inl ⟨by rfl, ?_⟩, fun _ => rfl⟩ ?_
    rotate_left
    · intro w'
      go_simp
      try with_reducible rfl
    try simp only [Act.put, List.setIfInBounds_toArray, List.set_cons_zero, List.set_cons_succ]
    refine wpAnyIn_ready (rs := [14, 18]) (by kernel_rfl) (by simp) ?_
    refine (AllReadyIn.cons (o := { dst := some 27, op := Op.load 142 (Operand.tmp 4), type := 142, pos := "sim.go:188", after := #[{ on := 13, ground := Ground.guard }], guard := some (13, true) }) rfl (fun K14 hK14 => ?_) (AllReadyIn.cons (o := { dst := some 31, op := Op.load 3 (Operand.tmp 30), type := 3, pos := "sim.go:188", after := #[{ on := 17, ground := Ground.data }, { on := 13, ground := Ground.guard }], guard := some (13, true) }) rfl (fun K18 hK18 => ?_) AllReadyIn.nil))
    · refine wpI_ldg 142 wide_fn rfl (by rfl) rfl (ld129 (hC.out _ (hD.trans B4)).2.2.2.2) (hK14 _ _ ?_)
      clear hK14 K14
      try simp only [Act.put, List.setIfInBounds_toArray, List.set_cons_zero, List.set_cons_succ]
      refine wpAnyIn_ready (rs := [18]) (by kernel_rfl) (by simp) ?_
      refine (AllReadyIn.cons (o := { dst := some 31, op := Op.load 3 (Operand.tmp 30), type := 3, pos := "sim.go:188", after := #[{ on := 17, ground := Ground.data }, { on := 13, ground := Ground.guard }], guard := some (13, true) }) rfl (fun K18 hK18 => ?_) AllReadyIn.nil)
      refine wpI_ldg 3 wide_fn rfl (by rfl) rfl (ld3 (hC.out _ (hD.trans B4)).2.2.1) (hK18 _ _ ?_)
      clear hK18 K18
      try simp only [Act.put, List.setIfInBounds_toArray, List.set_cons_zero, List.set_cons_succ]
      refine wpAnyIn_ready (rs := [19]) (by kernel_rfl) (by simp) ?_
      refine (AllReadyIn.cons (o := { dst := some 32, op := Op.call { callee := Callee.value (Operand.tmp 27), args := #[Operand.tmp 31], argTypes := #[3] }, type := 4, pos := "sim.go:188", after := #[{ on := 14, ground := Ground.data }, { on := 18, ground := Ground.data }, { on := 13, ground := Ground.chain }, { on := 13, ground := Ground.guard }], guard := some (13, true) }) rfl (fun K19 hK19 => ?_) AllReadyIn.nil)
      obtain ⟨fn, tmps, assign, body, hy, hR⟩ := hY.out w4 (hD.trans B4)
      go_simp
      refine ⟨fun h => (by cases h), hR.mono ?_⟩
      rintro e W3 hRe
      obtain ⟨bb, rfl, hq⟩ := h.out _ _ hRe
      refine hK19 _ _ ?_
      clear hK19 K19
      try simp only [Act.put, List.setIfInBounds_toArray, List.set_cons_zero, List.set_cons_succ]
      refine wpAnyIn_take (i := 20) (oi := { dst := some 33, op := Op.unOp UnOp.not 4 (Operand.tmp 32), type := 4, pos := "sim.go:188", after := #[{ on := 19, ground := Ground.data }, { on := 13, ground := Ground.guard }], guard := some (13, true) }) (v := ?_) rfl rfl (by kernel_rfl) (by kernel_rfl) (by kernel_rfl) (fun _ _ _ h => h) ⟨Or.inl ⟨by rfl, ?_⟩, fun _ => rfl⟩ ?_
      rotate_left
      · intro w'
        go_simp
        try with_reducible rfl
      try simp only [Act.put, List.setIfInBounds_toArray, List.set_cons_zero, List.set_cons_succ]
      refine wpAnyIn_take (i := 21) (oi := { dst := some 34, op := Op.pick (Operand.tmp 26) (Operand.tmp 33) (Operand.const (Value.bool false)), type := 4, pos := "sim.go:188", after := #[{ on := 13, ground := Ground.data }, { on := 20, ground := Ground.data }], guard := none }) (v := ?_) rfl rfl (by kernel_rfl) (by kernel_rfl) (by kernel_rfl) (fun _ _ _ h => h) ⟨Or.inl ⟨by rfl, ?_⟩, fun _ => rfl⟩ ?_
      rotate_left
      · intro w'
        go_simp
        try with_reducible rfl
      try simp only [Act.put, List.setIfInBounds_toArray, List.set_cons_zero, List.set_cons_succ]
      refine wpAnyIn_done (by kernel_rfl) ?_ _
      refine NoPanic.normal ?_
      exact hq
    · refine wpI_ldg 3 wide_fn rfl (by rfl) rfl (ld3 (hC.out _ (hD.trans B4)).2.2.1) (hK18 _ _ ?_)
      clear hK18 K18
      try simp only [Act.put, List.setIfInBounds_toArray, List.set_cons_zero, List.set_cons_succ]
      refine wpAnyIn_ready (rs := [14]) (by kernel_rfl) (by simp) ?_
      refine (AllReadyIn.cons (o := { dst := some 27, op := Op.load 142 (Operand.tmp 4), type := 142, pos := "sim.go:188", after := #[{ on := 13, ground := Ground.guard }], guard := some (13, true) }) rfl (fun K14 hK14 => ?_) AllReadyIn.nil)
      refine wpI_ldg 142 wide_fn rfl (by rfl) rfl (ld129 (hC.out _ (hD.trans B4)).2.2.2.2) (hK14 _ _ ?_)
      clear hK14 K14
      try simp only [Act.put, List.setIfInBounds_toArray, List.set_cons_zero, List.set_cons_succ]
      refine wpAnyIn_ready (rs := [19]) (by kernel_rfl) (by simp) ?_
      refine (AllReadyIn.cons (o := { dst := some 32, op := Op.call { callee := Callee.value (Operand.tmp 27), args := #[Operand.tmp 31], argTypes := #[3] }, type := 4, pos := "sim.go:188", after := #[{ on := 14, ground := Ground.data }, { on := 18, ground := Ground.data }, { on := 13, ground := Ground.chain }, { on := 13, ground := Ground.guard }], guard := some (13, true) }) rfl (fun K19 hK19 => ?_) AllReadyIn.nil)
      obtain ⟨fn, tmps, assign, body, hy, hR⟩ := hY.out w4 (hD.trans B4)
      go_simp
      refine ⟨fun h => (by cases h), hR.mono ?_⟩
      rintro e W3 hRe
      obtain ⟨bb, rfl, hq⟩ := h.out _ _ hRe
      refine hK19 _ _ ?_
      clear hK19 K19
      try simp only [Act.put, List.setIfInBounds_toArray, List.set_cons_zero, List.set_cons_succ]
      refine wpAnyIn_take (i := 20) (oi := { dst := some 33, op := Op.unOp UnOp.not 4 (Operand.tmp 32), type := 4, pos := "sim.go:188", after := #[{ on := 19, ground := Ground.data }, { on := 13, ground := Ground.guard }], guard := some (13, true) }) (v := ?_) rfl rfl (by kernel_rfl) (by kernel_rfl) (by kernel_rfl) (fun _ _ _ h => h) ⟨Or.inl ⟨by rfl, ?_⟩, fun _ => rfl⟩ ?_
      rotate_left
      · intro w'
        go_simp
        try with_reducible rfl
      try simp only [Act.put, List.setIfInBounds_toArray, List.set_cons_zero, List.set_cons_succ]
      refine wpAnyIn_take (i := 21) (oi := { dst := some 34, op := Op.pick (Operand.tmp 26) (Operand.tmp 33) (Operand.const (Value.bool false)), type := 4, pos := "sim.go:188", after := #[{ on := 13, ground := Ground.data }, { on := 20, ground := Ground.data }], guard := none }) (v := ?_) rfl rfl (by kernel_rfl) (by kernel_rfl) (by kernel_rfl) (fun _ _ _ h => h) ⟨Or.inl ⟨by rfl, ?_⟩, fun _ => rfl⟩ ?_
      rotate_left
      · intro w'
        go_simp
        try with_reducible rfl
      try simp only [Act.put, List.setIfInBounds_toArray, List.set_cons_zero, List.set_cons_succ]
      refine wpAnyIn_done (by kernel_rfl) ?_ _
      refine NoPanic.normal ?_
      exact hq
end Go.Proofs.YtkfdikpnnkbgaaaGreatDoor
