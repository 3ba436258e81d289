/-
  ProgParts: the region that cuts both patterns; a row of two patterns.
-/
import Derived.Test.YtkgegjnkkbgghaaDoorFD
import Derived.Test.YtkgegjnkkbgghaaDoorEH
import Derived.Test.YtkgegjnkkbgghaaDoorFC
namespace Go.Proofs.YtkgegjnkkbgghaaDoor
open Go.RowKit Go.Shelf Go.Lib
set_option linter.unusedVariables false
set_option linter.unusedSimpArgs false

theorem run_st27x {w w' : World} {x y : Operand} {ty : TypeId} {pos : String} {after : Array Edge} (ev : Operand → Value) {ad : Addr} {v : Value} (hx : ev x = .pointer (some ad)) (hy : ev y = v) (hr : (storeVar 27 ad v).run Tryd.prog w = .ok () w') : (execOp ev ⟨none, .store 27 x y, ty, pos, after, none⟩).run Tryd.prog w = .ok .skip w' := by
  unfold execOp
  simp only [hx, hy, Instr.storeAt, Instr.sureAddr, Sem.run_bind, Sem.run_pure, Result.andThen_ok, hr]
theorem run_bs25b (k1 k2 : Int) (s1 s2 : S4) (v1 v2 : Value) (mn1 mx1 mn2 mx2 : Int) (w : World) : (Instr.buildSlice 25 2 #[(0, reV k1 s1 v1 mn1 mx1), (1, reV k2 s2 v2 mn2 mx2)]).run Tryd.prog w = .ok (.slice (some ⟨w.heap.size, 0, none⟩) 2 2) (w.alloc (.cells (reA k1 s1 v1 mn1 mx1 ++ reA k2 s2 v2 mn2 mx2) 27)) := by kernel_rfl
/-- A row of two patterns. -/
theorem both_tr {w : World} {P : Nat → Prop} {t1 t2 : Tr} {u1 u2 : Value} (T1 : TrV w P (reV t1.1.k t1.1.s u1 t1.1.mn t1.1.mx) t1) (T2 : TrV w P (reV t2.1.k t2.1.s u2 t2.1.mn t2.1.mx) t2) (hP : P w.heap.size) :
    TrV (w.alloc (.cells (reA t1.1.k t1.1.s u1 t1.1.mn t1.1.mx ++ reA t2.1.k t2.1.s u2 t2.1.mn t2.1.mx) 27)) P (reV 2 noSet (.slice (some ⟨w.heap.size, 0, none⟩) 2 2) 0 0) (both t1 t2) := by
  have hB : Below w.heap.size w (w.alloc (.cells (reA t1.1.k t1.1.s u1 t1.1.mn t1.1.mx ++ reA t2.1.k t2.1.s u2 t2.1.mn t2.1.mx) 27)) := (Below.refl _ w).alloc (Nat.le_refl _) _
  have K1 := T1.kept (fun b _ hl => hB.block b hl)
  have K2 := T2.kept (fun b _ hl => hB.block b hl)
  obtain ⟨x1, z1, e1, o1, p1, k1⟩ := K1
  obtain ⟨x2, z2, e2, o2, p2, k2⟩ := K2
  obtain rfl : u1 = x1 := by
    simp only [reV, reA, Value.agg.injEq] at e1
    have := congrArg (fun a => a[5]?) e1
    simpa using this
  obtain rfl : u2 = x2 := by
    simp only [reV, reA, Value.agg.injEq] at e2
    have := congrArg (fun a => a[5]?) e2
    simpa using this
  refine ⟨.slice (some ⟨w.heap.size, 0, none⟩) 2 2, (reA t1.1.k t1.1.s u1 t1.1.mn t1.1.mx).toList ++ (reA t2.1.k t2.1.s u2 t2.1.mn t2.1.mx).toList, rfl, ⟨rfl, .inr ⟨w.heap.size, 2, _, rfl, Nat.zero_le _, heap_alloc_new w _, Nat.le_refl _, by unfold maxLen; omega, rfl, ?_⟩⟩, fun b hb => by cases hb; exact hP, u1, (reA t2.1.k t2.1.s u2 t2.1.mn t2.1.mx).toList, z1, rfl, o1, p1, k1, u2, [], z2, by simp, o2, p2, k2, rfl⟩
  rfl
section
variable {S : Nat → Prop} {w0 w w' : World} {L : List Ent} {ops : Array Oper} {rest : List Oper} {a : Act} {Q : Exit → Act → World → Prop} {dst : Option Nat} {x y : Operand} {ty : TypeId} {pos : String} {after : Array Edge}
theorem at_bs25b {n : Nat} {ps : Array (Nat × Operand)} (h : wpList Tryd.prog ops Q (⟨dst, .buildSlice 25 n ps, ty, pos, after, none⟩ :: rest) a w) : wpList Tryd.prog ops Q (⟨dst, .buildSlice 25 n ps, ty, pos, after, none⟩ :: rest) a w := h
theorem wl_bs25b {k1 k2 : Int} {s1 s2 : S4} {v1 v2 : Value} {mn1 mx1 mn2 mx2 : Int} (hx : a.eval x = reV k1 s1 v1 mn1 mx1) (hy : a.eval y = reV k2 s2 v2 mn2 mx2) (k : wpList Tryd.prog ops Q rest (a.put dst (.slice (some ⟨w.heap.size, 0, none⟩) 2 2)) (w.alloc (.cells (reA k1 s1 v1 mn1 mx1 ++ reA k2 s2 v2 mn2 mx2) 27))) : wpList Tryd.prog ops Q (⟨dst, .buildSlice 25 2 #[(0, x), (1, y)], ty, pos, after, none⟩ :: rest) a w := by
  refine wl_val ?_ k
  unfold execOp
  simp only [List.map_toArray, List.map_cons, List.map_nil, hx, hy, Sem.run_bind, run_bs25b, Result.andThen_ok, Sem.run_pure]
theorem run_build27 (ev : Operand → Value) (m : Int) (v : Value) (h0 : ev x = .int .i64 m) (h1 : ev y = v) (hv : ∃ a n c, v = .slice a n c) (w : World) : (execOp ev ⟨dst, .build 27 #[(0, x), (2, y)], ty, pos, after, none⟩).run Tryd.prog w = .ok (.value (reV m noSet v 0 0)) w := by
  obtain ⟨a, n, c, rfl⟩ := hv
  unfold execOp
  simp only [List.map_toArray, List.map_cons, List.map_nil, h0, h1]
  kernel_rfl
theorem run_buildI0 (ev : Operand → Value) (w : World) : (execOp ev ⟨dst, .build 45 #[], ty, pos, after, none⟩).run Tryd.prog w = .ok (.value (insV ins0)) w := by
  unfold execOp
  kernel_rfl
end
set_option maxHeartbeats 4000000 in
set_option maxRecDepth 100000 in
theorem reg7_3 (w : World) (g2 g3 : Nat) (A Bv : Value) (hl2 : (loadVar 27 ⟨g2, 0, none⟩).run Tryd.prog w.drew = .ok A w.drew) (hl3 : (loadVar 27 ⟨g3, 0, none⟩).run Tryd.prog w.drew = .ok Bv w.drew)
    (u0 u1 u4 u5 u6 u7 u8 u9 u10 u11 u12 u13 u14 u15 u16 u17 u18 u19 u20 u21 u22 u23 u24 u25 u26 u27 u28 u29 u30 u31 u32 u33 u34 u35 u36 u37 u38 u39 u40 u41 u42 u43 u44 u45 u46 u47 u48 u49 u50 u51 u52 u53 u54 u55 u56 u57 u58 u59 u60 u61 u62 u63 u64 u65 u66 u67 u68 u69 u70 u71 u72 u73 u74 u75 u76 u77 u78 u79 u80 u81 u82 u83 u84 u85 u86 u87 u88 u89 u90 u91 u92 u93 u94 u95 u96 u97 u98 u99 u100 u101 u102 u103 : Value) (Q : Exit → Act → World → Prop)
    (h : Calls Tryd.prog 8 #[A] w.drew fun e w4 => ∃ X1, e = .returned X1 ∧ (loadVar 27 ⟨g3, 0, none⟩).run Tryd.prog w4 = .ok Bv w4 ∧ Calls Tryd.prog 8 #[Bv] w4 fun e w5 => ∃ X2 w6 w7, e = .returned X2 ∧ (storeVar 27 ⟨g2, 0, none⟩ X1).run Tryd.prog w5 = .ok () w6 ∧ (storeVar 27 ⟨g3, 0, none⟩ X2).run Tryd.prog w6 = .ok () w7 ∧ Q .normal { tmps := (List.toArray ((u0 :: u1 :: .pointer (some ⟨g2, 0, none⟩) :: .pointer (some ⟨g3, 0, none⟩) :: u4 :: u5 :: u6 :: u7 :: u8 :: u9 :: u10 :: u11 :: u12 :: u13 :: u14 :: u15 :: A :: X1 :: Bv :: X2 :: u20 :: u21 :: u22 :: u23 :: u24 :: u25 :: u26 :: u27 :: u28 :: u29 :: u30 :: u31 :: u32 :: u33 :: u34 :: u35 :: u36 :: u37 :: u38 :: u39 :: u40 :: u41 :: u42 :: u43 :: u44 :: u45 :: u46 :: u47 :: u48 :: u49 :: u50 :: u51 :: u52 :: u53 :: u54 :: u55 :: u56 :: u57 :: u58 :: u59 :: u60 :: u61 :: u62 :: u63 :: u64 :: u65 :: u66 :: u67 :: u68 :: u69 :: u70 :: u71 :: u72 :: u73 :: u74 :: u75 :: u76 :: u77 :: u78 :: u79 :: u80 :: u81 :: u82 :: u83 :: u84 :: u85 :: u86 :: u87 :: u88 :: u89 :: u90 :: u91 :: u92 :: u93 :: u94 :: u95 :: u96 :: u97 :: u98 :: u99 :: u100 :: u101 :: u102 :: u103 :: []) : List Value)), defers := [] } w7) :
    (Code.region 3 #[{ dst := some 16, op := Op.load 27 (Operand.tmp 2), type := 27, pos := "law.go:138", after := #[], guard := none }, { dst := some 17, op := Op.call { callee := Callee.value (Operand.func 8), args := #[Operand.tmp 16], argTypes := #[27] }, type := 27, pos := "law.go:138", after := #[{ on := 0, ground := Ground.data }], guard := none }, { dst := some 18, op := Op.load 27 (Operand.tmp 3), type := 27, pos := "law.go:138", after := #[], guard := none }, { dst := some 19, op := Op.call { callee := Callee.value (Operand.func 8), args := #[Operand.tmp 18], argTypes := #[27] }, type := 27, pos := "law.go:138", after := #[{ on := 2, ground := Ground.data }, { on := 1, ground := Ground.chain }], guard := none }, { dst := none, op := Op.store 27 (Operand.tmp 2) (Operand.tmp 17), type := 0, pos := "law.go:138", after := #[{ on := 1, ground := Ground.data }, { on := 3, ground := Ground.chain }, { on := 0, ground := Ground.phase }, { on := 1, ground := Ground.phase }, { on := 2, ground := Ground.textOnly Departure.lateStores }, { on := 3, ground := Ground.textOnly Departure.lateStoresUnsure }], guard := none }, { dst := none, op := Op.store 27 (Operand.tmp 3) (Operand.tmp 19), type := 0, pos := "law.go:138", after := #[{ on := 3, ground := Ground.data }, { on := 4, ground := Ground.chain }, { on := 0, ground := Ground.phase }, { on := 1, ground := Ground.phase }, { on := 2, ground := Ground.phase }, { on := 3, ground := Ground.phase }, { on := 4, ground := Ground.phase }], guard := none }] true).wp Tryd.prog Q { tmps := (List.toArray ((u0 :: u1 :: .pointer (some ⟨g2, 0, none⟩) :: .pointer (some ⟨g3, 0, none⟩) :: u4 :: u5 :: u6 :: u7 :: u8 :: u9 :: u10 :: u11 :: u12 :: u13 :: u14 :: u15 :: u16 :: u17 :: u18 :: u19 :: u20 :: u21 :: u22 :: u23 :: u24 :: u25 :: u26 :: u27 :: u28 :: u29 :: u30 :: u31 :: u32 :: u33 :: u34 :: u35 :: u36 :: u37 :: u38 :: u39 :: u40 :: u41 :: u42 :: u43 :: u44 :: u45 :: u46 :: u47 :: u48 :: u49 :: u50 :: u51 :: u52 :: u53 :: u54 :: u55 :: u56 :: u57 :: u58 :: u59 :: u60 :: u61 :: u62 :: u63 :: u64 :: u65 :: u66 :: u67 :: u68 :: u69 :: u70 :: u71 :: u72 :: u73 :: u74 :: u75 :: u76 :: u77 :: u78 :: u79 :: u80 :: u81 :: u82 :: u83 :: u84 :: u85 :: u86 :: u87 :: u88 :: u89 :: u90 :: u91 :: u92 :: u93 :: u94 :: u95 :: u96 :: u97 :: u98 :: u99 :: u100 :: u101 :: u102 :: u103 :: []) : List Value)), defers := [] } w := by
  replace h := hide h
  refine wp_region_noPanic ?_
  refine wp_region_any (by kernel_rfl) ?_
  change wpAny _ _ _ _ _ _ _ (World.drew w)
  refine wpAny_ready (rs := [0, 2]) (by kernel_rfl) (by simp) ?_
  refine (AllReady.cons (o := { dst := some 16, op := Op.load 27 (Operand.tmp 2), type := 27, pos := "law.go:138", after := #[], guard := none }) rfl (fun K0 hK0 => ?_) (AllReady.cons (o := { dst := some 18, op := Op.load 27 (Operand.tmp 3), type := 27, pos := "law.go:138", after := #[], guard := none }) rfl (fun K2 hK2 => ?_) AllReady.nil))
  · refine step_val rfl (run_ld27x _ rfl hl2) ?_
    refine hK0 _ _ ?_
    clear hK0 K0
    try simp only [Act.put, List.setIfInBounds_toArray, List.set_cons_zero, List.set_cons_succ]
    refine wpAny_ready (rs := [1, 2]) (by kernel_rfl) (by simp) ?_
    refine (AllReady.cons (o := { dst := some 17, op := Op.call { callee := Callee.value (Operand.func 8), args := #[Operand.tmp 16], argTypes := #[27] }, type := 27, pos := "law.go:138", after := #[{ on := 0, ground := Ground.data }], guard := none }) rfl (fun K1 hK1 => ?_) (AllReady.cons (o := { dst := some 18, op := Op.load 27 (Operand.tmp 3), type := 27, pos := "law.go:138", after := #[], guard := none }) rfl (fun K2 hK2 => ?_) AllReady.nil))
    · go_simp
      refine h.out.mono ?_
      rintro e w4 ⟨X1, rfl, hl3b, h⟩
      replace h := hide h
      refine hK1 _ _ ?_
      clear hK1 K1
      try simp only [Act.put, List.setIfInBounds_toArray, List.set_cons_zero, List.set_cons_succ]
      refine wpAny_ready (rs := [2]) (by kernel_rfl) (by simp) ?_
      refine (AllReady.cons (o := { dst := some 18, op := Op.load 27 (Operand.tmp 3), type := 27, pos := "law.go:138", after := #[], guard := none }) rfl (fun K2 hK2 => ?_) AllReady.nil)
      refine step_val rfl (run_ld27x _ rfl hl3b) ?_
      refine hK2 _ _ ?_
      clear hK2 K2
      try simp only [Act.put, List.setIfInBounds_toArray, List.set_cons_zero, List.set_cons_succ]
      refine wpAny_ready (rs := [3]) (by kernel_rfl) (by simp) ?_
      refine (AllReady.cons (o := { dst := some 19, op := Op.call { callee := Callee.value (Operand.func 8), args := #[Operand.tmp 18], argTypes := #[27] }, type := 27, pos := "law.go:138", after := #[{ on := 2, ground := Ground.data }, { on := 1, ground := Ground.chain }], guard := none }) rfl (fun K3 hK3 => ?_) AllReady.nil)
      go_simp
      refine h.out.mono ?_
      rintro e w5 ⟨X2, w6, w7, rfl, hs1, hs2, h⟩
      replace h := hide h
      replace hs1 := hide hs1
      replace hs2 := hide hs2
      refine hK3 _ _ ?_
      clear hK3 K3
      try simp only [Act.put, List.setIfInBounds_toArray, List.set_cons_zero, List.set_cons_succ]
      refine wpAny_ready (rs := [4]) (by kernel_rfl) (by simp) ?_
      refine (AllReady.cons (o := { dst := none, op := Op.store 27 (Operand.tmp 2) (Operand.tmp 17), type := 0, pos := "law.go:138", after := #[{ on := 1, ground := Ground.data }, { on := 3, ground := Ground.chain }, { on := 0, ground := Ground.phase }, { on := 1, ground := Ground.phase }, { on := 2, ground := Ground.textOnly Departure.lateStores }, { on := 3, ground := Ground.textOnly Departure.lateStoresUnsure }], guard := none }) rfl (fun K4 hK4 => ?_) AllReady.nil)
      refine step_skip rfl rfl (w' := w6) (run_st27x _ rfl rfl hs1.out) ?_
      refine hK4 _ _ ?_
      clear hK4 K4
      try simp only [Act.put, List.setIfInBounds_toArray, List.set_cons_zero, List.set_cons_succ]
      refine wpAny_ready (rs := [5]) (by kernel_rfl) (by simp) ?_
      refine (AllReady.cons (o := { dst := none, op := Op.store 27 (Operand.tmp 3) (Operand.tmp 19), type := 0, pos := "law.go:138", after := #[{ on := 3, ground := Ground.data }, { on := 4, ground := Ground.chain }, { on := 0, ground := Ground.phase }, { on := 1, ground := Ground.phase }, { on := 2, ground := Ground.phase }, { on := 3, ground := Ground.phase }, { on := 4, ground := Ground.phase }], guard := none }) rfl (fun K5 hK5 => ?_) AllReady.nil)
      refine step_skip rfl rfl (w' := w7) (run_st27x _ rfl rfl hs2.out) ?_
      refine hK5 _ _ ?_
      clear hK5 K5
      try simp only [Act.put, List.setIfInBounds_toArray, List.set_cons_zero, List.set_cons_succ]
      refine wpAny_done (by kernel_rfl) ?_ _
      refine NoPanic.normal ?_
      exact h.out
    · refine step_val rfl (run_ld27x _ rfl hl3) ?_
      refine hK2 _ _ ?_
      clear hK2 K2
      try simp only [Act.put, List.setIfInBounds_toArray, List.set_cons_zero, List.set_cons_succ]
      refine wpAny_ready (rs := [1]) (by kernel_rfl) (by simp) ?_
      refine (AllReady.cons (o := { dst := some 17, op := Op.call { callee := Callee.value (Operand.func 8), args := #[Operand.tmp 16], argTypes := #[27] }, type := 27, pos := "law.go:138", after := #[{ on := 0, ground := Ground.data }], guard := none }) rfl (fun K1 hK1 => ?_) AllReady.nil)
      go_simp
      refine h.out.mono ?_
      rintro e w4 ⟨X1, rfl, hl3b, h⟩
      replace h := hide h
      refine hK1 _ _ ?_
      clear hK1 K1
      try simp only [Act.put, List.setIfInBounds_toArray, List.set_cons_zero, List.set_cons_succ]
      refine wpAny_ready (rs := [3]) (by kernel_rfl) (by simp) ?_
      refine (AllReady.cons (o := { dst := some 19, op := Op.call { callee := Callee.value (Operand.func 8), args := #[Operand.tmp 18], argTypes := #[27] }, type := 27, pos := "law.go:138", after := #[{ on := 2, ground := Ground.data }, { on := 1, ground := Ground.chain }], guard := none }) rfl (fun K3 hK3 => ?_) AllReady.nil)
      go_simp
      refine h.out.mono ?_
      rintro e w5 ⟨X2, w6, w7, rfl, hs1, hs2, h⟩
      replace h := hide h
      replace hs1 := hide hs1
      replace hs2 := hide hs2
      refine hK3 _ _ ?_
      clear hK3 K3
      try simp only [Act.put, List.setIfInBounds_toArray, List.set_cons_zero, List.set_cons_succ]
      refine wpAny_ready (rs := [4]) (by kernel_rfl) (by simp) ?_
      refine (AllReady.cons (o := { dst := none, op := Op.store 27 (Operand.tmp 2) (Operand.tmp 17), type := 0, pos := "law.go:138", after := #[{ on := 1, ground := Ground.data }, { on := 3, ground := Ground.chain }, { on := 0, ground := Ground.phase }, { on := 1, ground := Ground.phase }, { on := 2, ground := Ground.textOnly Departure.lateStores }, { on := 3, ground := Ground.textOnly Departure.lateStoresUnsure }], guard := none }) rfl (fun K4 hK4 => ?_) AllReady.nil)
      refine step_skip rfl rfl (w' := w6) (run_st27x _ rfl rfl hs1.out) ?_
      refine hK4 _ _ ?_
      clear hK4 K4
      try simp only [Act.put, List.setIfInBounds_toArray, List.set_cons_zero, List.set_cons_succ]
      refine wpAny_ready (rs := [5]) (by kernel_rfl) (by simp) ?_
      refine (AllReady.cons (o := { dst := none, op := Op.store 27 (Operand.tmp 3) (Operand.tmp 19), type := 0, pos := "law.go:138", after := #[{ on := 3, ground := Ground.data }, { on := 4, ground := Ground.chain }, { on := 0, ground := Ground.phase }, { on := 1, ground := Ground.phase }, { on := 2, ground := Ground.phase }, { on := 3, ground := Ground.phase }, { on := 4, ground := Ground.phase }], guard := none }) rfl (fun K5 hK5 => ?_) AllReady.nil)
      refine step_skip rfl rfl (w' := w7) (run_st27x _ rfl rfl hs2.out) ?_
      refine hK5 _ _ ?_
      clear hK5 K5
      try simp only [Act.put, List.setIfInBounds_toArray, List.set_cons_zero, List.set_cons_succ]
      refine wpAny_done (by kernel_rfl) ?_ _
      refine NoPanic.normal ?_
      exact h.out
  · refine step_val rfl (run_ld27x _ rfl hl3) ?_
    refine hK2 _ _ ?_
    clear hK2 K2
    try simp only [Act.put, List.setIfInBounds_toArray, List.set_cons_zero, List.set_cons_succ]
    refine wpAny_ready (rs := [0]) (by kernel_rfl) (by simp) ?_
    refine (AllReady.cons (o := { dst := some 16, op := Op.load 27 (Operand.tmp 2), type := 27, pos := "law.go:138", after := #[], guard := none }) rfl (fun K0 hK0 => ?_) AllReady.nil)
    refine step_val rfl (run_ld27x _ rfl hl2) ?_
    refine hK0 _ _ ?_
    clear hK0 K0
    try simp only [Act.put, List.setIfInBounds_toArray, List.set_cons_zero, List.set_cons_succ]
    refine wpAny_ready (rs := [1]) (by kernel_rfl) (by simp) ?_
    refine (AllReady.cons (o := { dst := some 17, op := Op.call { callee := Callee.value (Operand.func 8), args := #[Operand.tmp 16], argTypes := #[27] }, type := 27, pos := "law.go:138", after := #[{ on := 0, ground := Ground.data }], guard := none }) rfl (fun K1 hK1 => ?_) AllReady.nil)
    go_simp
    refine h.out.mono ?_
    rintro e w4 ⟨X1, rfl, hl3b, h⟩
    replace h := hide h
    refine hK1 _ _ ?_
    clear hK1 K1
    try simp only [Act.put, List.setIfInBounds_toArray, List.set_cons_zero, List.set_cons_succ]
    refine wpAny_ready (rs := [3]) (by kernel_rfl) (by simp) ?_
    refine (AllReady.cons (o := { dst := some 19, op := Op.call { callee := Callee.value (Operand.func 8), args := #[Operand.tmp 18], argTypes := #[27] }, type := 27, pos := "law.go:138", after := #[{ on := 2, ground := Ground.data }, { on := 1, ground := Ground.chain }], guard := none }) rfl (fun K3 hK3 => ?_) AllReady.nil)
    go_simp
    refine h.out.mono ?_
    rintro e w5 ⟨X2, w6, w7, rfl, hs1, hs2, h⟩
    replace h := hide h
    replace hs1 := hide hs1
    replace hs2 := hide hs2
    refine hK3 _ _ ?_
    clear hK3 K3
    try simp only [Act.put, List.setIfInBounds_toArray, List.set_cons_zero, List.set_cons_succ]
    refine wpAny_ready (rs := [4]) (by kernel_rfl) (by simp) ?_
    refine (AllReady.cons (o := { dst := none, op := Op.store 27 (Operand.tmp 2) (Operand.tmp 17), type := 0, pos := "law.go:138", after := #[{ on := 1, ground := Ground.data }, { on := 3, ground := Ground.chain }, { on := 0, ground := Ground.phase }, { on := 1, ground := Ground.phase }, { on := 2, ground := Ground.textOnly Departure.lateStores }, { on := 3, ground := Ground.textOnly Departure.lateStoresUnsure }], guard := none }) rfl (fun K4 hK4 => ?_) AllReady.nil)
    refine step_skip rfl rfl (w' := w6) (run_st27x _ rfl rfl hs1.out) ?_
    refine hK4 _ _ ?_
    clear hK4 K4
    try simp only [Act.put, List.setIfInBounds_toArray, List.set_cons_zero, List.set_cons_succ]
    refine wpAny_ready (rs := [5]) (by kernel_rfl) (by simp) ?_
    refine (AllReady.cons (o := { dst := none, op := Op.store 27 (Operand.tmp 3) (Operand.tmp 19), type := 0, pos := "law.go:138", after := #[{ on := 3, ground := Ground.data }, { on := 4, ground := Ground.chain }, { on := 0, ground := Ground.phase }, { on := 1, ground := Ground.phase }, { on := 2, ground := Ground.phase }, { on := 3, ground := Ground.phase }, { on := 4, ground := Ground.phase }], guard := none }) rfl (fun K5 hK5 => ?_) AllReady.nil)
    refine step_skip rfl rfl (w' := w7) (run_st27x _ rfl rfl hs2.out) ?_
    refine hK5 _ _ ?_
    clear hK5 K5
    try simp only [Act.put, List.setIfInBounds_toArray, List.set_cons_zero, List.set_cons_succ]
    refine wpAny_done (by kernel_rfl) ?_ _
    refine NoPanic.normal ?_
    exact h.out
end Go.Proofs.YtkgegjnkkbgghaaDoor
