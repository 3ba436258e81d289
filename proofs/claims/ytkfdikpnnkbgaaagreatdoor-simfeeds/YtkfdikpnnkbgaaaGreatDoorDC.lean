/-
  count; the iterator over a program's instructions.
-/
import Derived.Test.YtkfdikpnnkbgaaaGreatDoorDB
namespace Go.Proofs.YtkfdikpnnkbgaaaGreatDoor
open Go.RowKit Go.Shelf
set_option linter.unusedVariables false
set_option linter.unusedSimpArgs false
attribute [local go_sem] Oper.semAt_some

section
variable {F : Fence} {n : Nat} {w w' : World} {ops : Array Oper} {o : Oper} {rest : List Oper} {a : Act} {K : Act → World → Prop} {E : Prop} {Q : Exit → Act → World → Prop} {dst : Option Nat} {x y : Operand} {ty : TypeId} {pos : String} {after : Array Edge}
theorem wpI_ld (t : TypeId) {ad : Addr} {v : Value} (hF : ∀ f, F.fn f) (ho : o.op = .load t x) (hgd : o.guard = none) (hx : a.eval x = .pointer (some ad)) (hl : (loadVar t ad).run Tryz.prog w = .ok v w) (h : K (a.put o.dst v) w) : if Region.wanted o (yielded ops a.tmps) = true then Oper.wpIn F n Tryz.prog o a w K Q else E := by
  rw [if_pos (by simp [Region.wanted, hgd])]
  unfold Oper.wpIn
  refine ⟨fun f _ => hF f, ?_⟩
  rw [Oper.semAt_plain F _ _ (fun c hc => by rw [ho] at hc; cases hc)]
  unfold execOp
  simp only [ho, hx, Instr.loadAt, Instr.sureAddr, Sem.run_bind, Sem.run_pure, Result.andThen_ok, hl]
  exact h
theorem wlI_newI {d : Nat} {ty2 : TypeId} {pos2 : String} {after2 : Array Edge} (hF : ∀ f, F.fn f) {i : Ins} (hd : ∀ u, (a.put (some d) u).eval (.tmp d) = u) (hy : ∀ u, (a.put (some d) u).eval y = insV i) (h : ∀ g w', w'.heap[g]? = some (.cells (insA i) 102 (0, 0)) → Below w.heap.size w w' → w.heap.size ≤ g → wpListIn F n Tryz.prog ops Q rest (a.put (some d) (.pointer (some ⟨g, 0, none⟩))) w') : wpListIn F n Tryz.prog ops Q (⟨some d, .alloc 102, ty, pos, after, none⟩ :: ⟨none, .store 102 (.tmp d) y, ty2, pos2, after2, none⟩ :: rest) a w := by
  refine wlI_val hF (fun c => nofun) (run_allocI _ _ _ _ _ w) ?_
  have hg := heap_alloc_new w (.cells (insA ins0) 102)
  have e : (storeVar 102 ⟨w.heap.size, 0, none⟩ (insV i)).run Tryz.prog (w.alloc (.cells (insA ins0) 102)) = .ok () ((w.alloc (.cells (insA ins0) 102)).setRow w.heap.size (insA i)) := run_storeVar_row _ _ 102 102 _ _ hg sizeI rfl (insA_all i)
  refine wlI_skip (w' := (w.alloc (.cells (insA ins0) 102)).setRow w.heap.size (insA i)) hF (fun c => nofun) ?_ (h _ _ (setRow_heap _ _ _ _ 102 (0, 0) hg) ?_ (Nat.le_refl _))
  · unfold execOp
    simp only [hd, hy, Instr.storeAt, Instr.sureAddr, Sem.run_bind, Sem.run_pure, Result.andThen_ok, e]
  · refine ⟨rfl, rfl, rfl, by simp, fun k hk => ?_⟩
    rw [setRow_other _ _ _ _ (by omega)]
    exact Below.heap_alloc _ _ _ hk
theorem atI_newI {d : Nat} {ty2 : TypeId} {pos2 : String} {after2 : Array Edge} (h : wpListIn F n Tryz.prog ops Q (⟨some d, .alloc 102, ty, pos, after, none⟩ :: ⟨none, .store 102 (.tmp d) y, ty2, pos2, after2, none⟩ :: rest) a w) : wpListIn F n Tryz.prog ops Q (⟨some d, .alloc 102, ty, pos, after, none⟩ :: ⟨none, .store 102 (.tmp d) y, ty2, pos2, after2, none⟩ :: rest) a w := h
end
set_option maxHeartbeats 4000000 in
set_option maxRecDepth 100000 in
theorem reg42_3 (n0 : Nat) (w : World) (l g4 : Nat) (i : Ins) (R : Ending → World → Prop) (hb : w.heap[g4]? = some (.cells (insA i) 102 (0, 0))) (hY0 : ∀ w', Below w.heap.size w w' → YieldAt Fence.wide (n0 - 1) Tryz.prog l #[fmV (fm i.op), insV i] w' R)
    (u1 u2 u3 u5 u6 u7 u8 u9 u10 u11 u12 u13 u14 u15 u16 u17 u18 : Value) (Q : Exit → Act → World → Prop)
    (h : ∀ e W', R e W' → ∃ b, e = .returned (.bool b) ∧ Q .normal { tmps := (List.toArray ((.func (.yield l) #[] #[] :: u1 :: u2 :: u3 :: .pointer (some ⟨g4, 0, none⟩) :: u5 :: u6 :: u7 :: u8 :: u9 :: u10 :: .func (.yield l) #[] #[] :: .pointer (some ⟨g4, 0, none⟩) :: .int .i64 i.op :: fmV (fm i.op) :: insV i :: .bool b :: .bool (!b) :: u18 :: []) : List Value)), defers := [] } W') :
    (Code.region 3 #[{ dst := some 11, op := Op.move (Operand.tmp 0), type := 170, pos := "prog.go:85", after := #[], guard := none }, { dst := some 12, op := Op.fieldAddr 102 (Operand.tmp 4) 0, type := 0, pos := "prog.go:85", after := #[], guard := none }, { dst := some 13, op := Op.load 3 (Operand.tmp 12), type := 3, pos := "prog.go:85", after := #[{ on := 1, ground := Ground.data }], guard := none }, { dst := some 14, op := Op.call { callee := Callee.value (Operand.func 117), args := #[Operand.tmp 13], argTypes := #[3] }, type := 139, pos := "prog.go:85", after := #[{ on := 2, ground := Ground.data }], guard := none }, { dst := some 15, op := Op.load 102 (Operand.tmp 4), type := 102, pos := "prog.go:85", after := #[], guard := none }, { dst := some 16, op := Op.call { callee := Callee.value (Operand.tmp 11), args := #[Operand.tmp 14, Operand.tmp 15], argTypes := #[139, 102] }, type := 4, pos := "prog.go:85", after := #[{ on := 0, ground := Ground.data }, { on := 3, ground := Ground.data }, { on := 4, ground := Ground.data }, { on := 3, ground := Ground.chain }], guard := none }, { dst := some 17, op := Op.unOp UnOp.not 4 (Operand.tmp 16), type := 4, pos := "prog.go:85", after := #[{ on := 5, ground := Ground.data }], guard := none }] true).wpIn Fence.wide n0 Tryz.prog Q { tmps := (List.toArray ((.func (.yield l) #[] #[] :: u1 :: u2 :: u3 :: .pointer (some ⟨g4, 0, none⟩) :: u5 :: u6 :: u7 :: u8 :: u9 :: u10 :: u11 :: u12 :: u13 :: u14 :: u15 :: u16 :: u17 :: u18 :: []) : List Value)), defers := [] } w := by
  have hD : Below w.heap.size w w.drew := (Below.refl _ w).drew
  have hlt := (Array.getElem?_eq_some_iff.1 hb).1
  have hB : Hid (∀ w', Below w.heap.size w w' → w'.heap[g4]? = some (.cells (insA i) 102 (0, 0))) := fun w' h => (h.block g4 hlt).trans hb
  have hY := hide hY0
  clear hY0 hb
  replace h := hide h
  refine Code.wpIn_mono NoPanic.imp ?_
  refine wpIn_region_any (by kernel_rfl) ?_
  change wpAnyIn _ _ _ _ _ _ _ _ _ (World.drew w)
  refine wpAnyIn_take (i := 0) (oi := { dst := some 11, op := Op.move (Operand.tmp 0), type := 170, pos := "prog.go:85", after := #[], guard := none }) (v := ?_) rfl rfl (by kernel_rfl) (by kernel_rfl) (by kernel_rfl) (fun _ _ _ h => h) ⟨Or.inl ⟨by rfl, ?_⟩, fun _ => rfl⟩ ?_
  rotate_left
  · intro w'
    go_simp
    try with_reducible rfl
  try simp only [Act.put, List.setIfInBounds_toArray, List.set_cons_zero, List.set_cons_succ]
  refine wpAnyIn_take (i := 1) (oi := { dst := some 12, op := Op.fieldAddr 102 (Operand.tmp 4) 0, type := 0, pos := "prog.go:85", after := #[], guard := none }) (v := ?_) rfl rfl (by kernel_rfl) (by kernel_rfl) (by kernel_rfl) (fun _ _ _ h => h) ⟨Or.inl ⟨by rfl, ?_⟩, fun _ => rfl⟩ ?_
  rotate_left
  · intro w'
    go_simp
    try with_reducible rfl
  try simp only [Act.put, List.setIfInBounds_toArray, List.set_cons_zero, List.set_cons_succ]
  refine wpAnyIn_ready (rs := [2, 4]) (by kernel_rfl) (by simp) ?_
  refine (AllReadyIn.cons (o := { dst := some 13, op := Op.load 3 (Operand.tmp 12), type := 3, pos := "prog.go:85", after := #[{ on := 1, ground := Ground.data }], guard := none }) rfl (fun K2 hK2 => ?_) (AllReadyIn.cons (o := { dst := some 15, op := Op.load 102 (Operand.tmp 4), type := 102, pos := "prog.go:85", after := #[], guard := none }) rfl (fun K4 hK4 => ?_) AllReadyIn.nil))
  · refine wpI_ld 3 wide_fn rfl rfl rfl (ld3 (cell_row (hB.out _ hD) 0 (v := .int .i64 i.op) rfl)) (hK2 _ _ ?_)
    clear hK2 K2
    try simp only [Act.put, List.setIfInBounds_toArray, List.set_cons_zero, List.set_cons_succ]
    refine wpAnyIn_ready (rs := [3, 4]) (by kernel_rfl) (by simp) ?_
    refine (AllReadyIn.cons (o := { dst := some 14, op := Op.call { callee := Callee.value (Operand.func 117), args := #[Operand.tmp 13], argTypes := #[3] }, type := 139, pos := "prog.go:85", after := #[{ on := 2, ground := Ground.data }], guard := none }) rfl (fun K3 hK3 => ?_) (AllReadyIn.cons (o := { dst := some 15, op := Op.load 102 (Operand.tmp 4), type := 102, pos := "prog.go:85", after := #[], guard := none }) rfl (fun K4 hK4 => ?_) AllReadyIn.nil))
    · go_simp
      refine ⟨trivial, fun h => (by cases h), (callsIn_wide.2 (formOf_any i.op _)).mono ?_⟩
      rintro e w4 ⟨rfl, B4⟩
      replace B4 : Below w.heap.size w.drew w4 := B4
      obtain ⟨fn, tmps, assign, body, hy, hR⟩ := hY.out w4 (hD.trans B4)
      refine hK3 _ _ ?_
      clear hK3 K3
      try simp only [Act.put, List.setIfInBounds_toArray, List.set_cons_zero, List.set_cons_succ]
      refine wpAnyIn_ready (rs := [4]) (by kernel_rfl) (by simp) ?_
      refine (AllReadyIn.cons (o := { dst := some 15, op := Op.load 102 (Operand.tmp 4), type := 102, pos := "prog.go:85", after := #[], guard := none }) rfl (fun K4 hK4 => ?_) AllReadyIn.nil)
      refine wpI_ld 102 wide_fn rfl rfl rfl (loadI (hB.out _ (hD.trans B4))) (hK4 _ _ ?_)
      clear hK4 K4
      try simp only [Act.put, List.setIfInBounds_toArray, List.set_cons_zero, List.set_cons_succ]
      refine wpAnyIn_ready (rs := [5]) (by kernel_rfl) (by simp) ?_
      refine (AllReadyIn.cons (o := { dst := some 16, op := Op.call { callee := Callee.value (Operand.tmp 11), args := #[Operand.tmp 14, Operand.tmp 15], argTypes := #[139, 102] }, type := 4, pos := "prog.go:85", after := #[{ on := 0, ground := Ground.data }, { on := 3, ground := Ground.data }, { on := 4, ground := Ground.data }, { on := 3, ground := Ground.chain }], guard := none }) rfl (fun K5 hK5 => ?_) AllReadyIn.nil)
      go_simp
      refine ⟨fun h => (by cases h), hR.mono ?_⟩
      rintro e W3 hRe
      obtain ⟨b, rfl, hq⟩ := h.out _ _ hRe
      refine hK5 _ _ ?_
      clear hK5 K5
      try simp only [Act.put, List.setIfInBounds_toArray, List.set_cons_zero, List.set_cons_succ]
      refine wpAnyIn_take (i := 6) (oi := { dst := some 17, op := Op.unOp UnOp.not 4 (Operand.tmp 16), type := 4, pos := "prog.go:85", after := #[{ on := 5, ground := Ground.data }], guard := none }) (v := ?_) rfl rfl (by kernel_rfl) (by kernel_rfl) (by kernel_rfl) (fun _ _ _ h => h) ⟨Or.inl ⟨by rfl, ?_⟩, fun _ => rfl⟩ ?_
      rotate_left
      · intro w'
        go_simp
        try with_reducible rfl
      try simp only [Act.put, List.setIfInBounds_toArray, List.set_cons_zero, List.set_cons_succ]
      refine wpAnyIn_done (by kernel_rfl) ?_ _
      refine NoPanic.normal ?_
      exact hq
    · refine wpI_ld 102 wide_fn rfl rfl rfl (loadI (hB.out _ hD)) (hK4 _ _ ?_)
      clear hK4 K4
      try simp only [Act.put, List.setIfInBounds_toArray, List.set_cons_zero, List.set_cons_succ]
      refine wpAnyIn_ready (rs := [3]) (by kernel_rfl) (by simp) ?_
      refine (AllReadyIn.cons (o := { dst := some 14, op := Op.call { callee := Callee.value (Operand.func 117), args := #[Operand.tmp 13], argTypes := #[3] }, type := 139, pos := "prog.go:85", after := #[{ on := 2, ground := Ground.data }], guard := none }) rfl (fun K3 hK3 => ?_) AllReadyIn.nil)
      go_simp
      refine ⟨trivial, fun h => (by cases h), (callsIn_wide.2 (formOf_any i.op _)).mono ?_⟩
      rintro e w4 ⟨rfl, B4⟩
      replace B4 : Below w.heap.size w.drew w4 := B4
      obtain ⟨fn, tmps, assign, body, hy, hR⟩ := hY.out w4 (hD.trans B4)
      refine hK3 _ _ ?_
      clear hK3 K3
      try simp only [Act.put, List.setIfInBounds_toArray, List.set_cons_zero, List.set_cons_succ]
      refine wpAnyIn_ready (rs := [5]) (by kernel_rfl) (by simp) ?_
      refine (AllReadyIn.cons (o := { dst := some 16, op := Op.call { callee := Callee.value (Operand.tmp 11), args := #[Operand.tmp 14, Operand.tmp 15], argTypes := #[139, 102] }, type := 4, pos := "prog.go:85", after := #[{ on := 0, ground := Ground.data }, { on := 3, ground := Ground.data }, { on := 4, ground := Ground.data }, { on := 3, ground := Ground.chain }], guard := none }) rfl (fun K5 hK5 => ?_) AllReadyIn.nil)
      go_simp
      refine ⟨fun h => (by cases h), hR.mono ?_⟩
      rintro e W3 hRe
      obtain ⟨b, rfl, hq⟩ := h.out _ _ hRe
      refine hK5 _ _ ?_
      clear hK5 K5
      try simp only [Act.put, List.setIfInBounds_toArray, List.set_cons_zero, List.set_cons_succ]
      refine wpAnyIn_take (i := 6) (oi := { dst := some 17, op := Op.unOp UnOp.not 4 (Operand.tmp 16), type := 4, pos := "prog.go:85", after := #[{ on := 5, ground := Ground.data }], guard := none }) (v := ?_) rfl rfl (by kernel_rfl) (by kernel_rfl) (by kernel_rfl) (fun _ _ _ h => h) ⟨Or.inl ⟨by rfl, ?_⟩, fun _ => rfl⟩ ?_
      rotate_left
      · intro w'
        go_simp
        try with_reducible rfl
      try simp only [Act.put, List.setIfInBounds_toArray, List.set_cons_zero, List.set_cons_succ]
      refine wpAnyIn_done (by kernel_rfl) ?_ _
      refine NoPanic.normal ?_
      exact hq
  · refine wpI_ld 102 wide_fn rfl rfl rfl (loadI (hB.out _ hD)) (hK4 _ _ ?_)
    clear hK4 K4
    try simp only [Act.put, List.setIfInBounds_toArray, List.set_cons_zero, List.set_cons_succ]
    refine wpAnyIn_ready (rs := [2]) (by kernel_rfl) (by simp) ?_
    refine (AllReadyIn.cons (o := { dst := some 13, op := Op.load 3 (Operand.tmp 12), type := 3, pos := "prog.go:85", after := #[{ on := 1, ground := Ground.data }], guard := none }) rfl (fun K2 hK2 => ?_) AllReadyIn.nil)
    refine wpI_ld 3 wide_fn rfl rfl rfl (ld3 (cell_row (hB.out _ hD) 0 (v := .int .i64 i.op) rfl)) (hK2 _ _ ?_)
    clear hK2 K2
    try simp only [Act.put, List.setIfInBounds_toArray, List.set_cons_zero, List.set_cons_succ]
    refine wpAnyIn_ready (rs := [3]) (by kernel_rfl) (by simp) ?_
    refine (AllReadyIn.cons (o := { dst := some 14, op := Op.call { callee := Callee.value (Operand.func 117), args := #[Operand.tmp 13], argTypes := #[3] }, type := 139, pos := "prog.go:85", after := #[{ on := 2, ground := Ground.data }], guard := none }) rfl (fun K3 hK3 => ?_) AllReadyIn.nil)
    go_simp
    refine ⟨trivial, fun h => (by cases h), (callsIn_wide.2 (formOf_any i.op _)).mono ?_⟩
    rintro e w4 ⟨rfl, B4⟩
    replace B4 : Below w.heap.size w.drew w4 := B4
    obtain ⟨fn, tmps, assign, body, hy, hR⟩ := hY.out w4 (hD.trans B4)
    refine hK3 _ _ ?_
    clear hK3 K3
    try simp only [Act.put, List.setIfInBounds_toArray, List.set_cons_zero, List.set_cons_succ]
    refine wpAnyIn_ready (rs := [5]) (by kernel_rfl) (by simp) ?_
    refine (AllReadyIn.cons (o := { dst := some 16, op := Op.call { callee := Callee.value (Operand.tmp 11), args := #[Operand.tmp 14, Operand.tmp 15], argTypes := #[139, 102] }, type := 4, pos := "prog.go:85", after := #[{ on := 0, ground := Ground.data }, { on := 3, ground := Ground.data }, { on := 4, ground := Ground.data }, { on := 3, ground := Ground.chain }], guard := none }) rfl (fun K5 hK5 => ?_) AllReadyIn.nil)
    go_simp
    refine ⟨fun h => (by cases h), hR.mono ?_⟩
    rintro e W3 hRe
    obtain ⟨b, rfl, hq⟩ := h.out _ _ hRe
    refine hK5 _ _ ?_
    clear hK5 K5
    try simp only [Act.put, List.setIfInBounds_toArray, List.set_cons_zero, List.set_cons_succ]
    refine wpAnyIn_take (i := 6) (oi := { dst := some 17, op := Op.unOp UnOp.not 4 (Operand.tmp 16), type := 4, pos := "prog.go:85", after := #[{ on := 5, ground := Ground.data }], guard := none }) (v := ?_) rfl rfl (by kernel_rfl) (by kernel_rfl) (by kernel_rfl) (fun _ _ _ h => h) ⟨Or.inl ⟨by rfl, ?_⟩, fun _ => rfl⟩ ?_
    rotate_left
    · intro w'
      go_simp
      try with_reducible rfl
    try simp only [Act.put, List.setIfInBounds_toArray, List.set_cons_zero, List.set_cons_succ]
    refine wpAnyIn_done (by kernel_rfl) ?_ _
    refine NoPanic.normal ?_
    exact hq
end Go.Proofs.YtkfdikpnnkbgaaaGreatDoor
