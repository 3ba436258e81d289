/-
  The reference's Put: its two regions that draw their order.
-/
import Derived.Test.YtmjjedbdedemcaaGreatDoorRD
import Derived.Test.YtmjjedbdedemcaaGreatDoorPA
namespace Go.Proofs.YtmjjedbdedemcaaGreatDoor
open Go.RowKit
set_option linter.unusedVariables false
set_option linter.unusedSimpArgs false

theorem zrStS : (Tryz.prog.info? 49).map (·.zero) = some (some (.agg #[.int .i64 0, .int .i64 0, .int .i64 0])) := by kernel_rfl
theorem szrStS : (Tryz.prog.info? 49).map (·.size) = some 3 := by kernel_rfl
theorem szrStX : (Tryz.prog.info? 51).map (·.size) = some 4 := by kernel_rfl
theorem Bx.three {w : World} {g : Nat} {t : TypeId} {b0 b1 b2 : Value} (h : Bx w g t #[b0, b1, b2]) : w.cell? ⟨g, 0, none⟩ = some b0 ∧ w.cell? ⟨g, 1, none⟩ = some b1 ∧ w.cell? ⟨g, 2, none⟩ = some b2 := ⟨h.cell 0, h.cell 1, h.cell 2⟩
theorem Bx.four {w : World} {g : Nat} {t : TypeId} {b0 b1 b2 b3 : Value} (h : Bx w g t #[b0, b1, b2, b3]) : w.cell? ⟨g, 0, none⟩ = some b0 ∧ w.cell? ⟨g, 1, none⟩ = some b1 ∧ w.cell? ⟨g, 2, none⟩ = some b2 ∧ w.cell? ⟨g, 3, none⟩ = some b3 := ⟨h.cell 0, h.cell 1, h.cell 2, h.cell 3⟩
section
variable {w : World} {ops : Array Oper} {rest : List Oper} {o : Oper} {a : Act} {Q : Exit → Act → World → Prop} {K : Act → World → Prop} {E : Prop}
theorem step_store3 (hgd : o.guard = none) (x y : Operand) (ho : o.op = .store 49 x y)
    (g : Nat) (a0 a1 a2 : Int) (hx : a.eval x = .pointer (some ⟨g, 0, none⟩)) (hy : a.eval y = .agg #[.int .i64 a0, .int .i64 a1, .int .i64 a2])
    (t : TypeId) (b0 b1 b2 : Value) (hg : Bx w g t #[b0, b1, b2]) (h : K (a.put o.dst undef) (w.setRow g #[.int .i64 a0, .int .i64 a1, .int .i64 a2])) :
    if Region.wanted o (yielded ops a.tmps) = true then Oper.wp Tryz.prog o a w K Q else E := by
  have hw : Region.wanted o (yielded ops a.tmps) = true := by simp [Region.wanted, hgd]
  rw [if_pos hw]
  exact wp_store_row 49 x y ho g _ hx hy t _ hg (by rw [szrStS]; rfl) rfl (by simp [Value.oneCell']) h
theorem step_store4 (hgd : o.guard = none) (x y : Operand) (ho : o.op = .store 51 x y)
    (g : Nat) (a0 a1 a2 a3 : Int) (hx : a.eval x = .pointer (some ⟨g, 0, none⟩)) (hy : a.eval y = .agg #[.int .i64 a0, .int .u64 a1, .int .i64 a2, .int .i64 a3])
    (t : TypeId) (b0 b1 b2 b3 : Value) (hg : Bx w g t #[b0, b1, b2, b3]) (h : K (a.put o.dst undef) (w.setRow g #[.int .i64 a0, .int .u64 a1, .int .i64 a2, .int .i64 a3])) :
    if Region.wanted o (yielded ops a.tmps) = true then Oper.wp Tryz.prog o a w K Q else E := by
  have hw : Region.wanted o (yielded ops a.tmps) = true := by simp [Region.wanted, hgd]
  rw [if_pos hw]
  exact wp_store_row 51 x y ho g _ hx hy t _ hg (by rw [szrStX]; rfl) rfl (by simp [Value.oneCell']) h
theorem wpList_store3 (hgd : o.guard = none) (x y : Operand) (ho : o.op = .store 49 x y)
    (g : Nat) (a0 a1 a2 : Int) (hx : a.eval x = .pointer (some ⟨g, 0, none⟩)) (hy : a.eval y = .agg #[.int .i64 a0, .int .i64 a1, .int .i64 a2])
    (t : TypeId) (b0 b1 b2 : Value) (hg : Bx w g t #[b0, b1, b2]) (h : wpList Tryz.prog ops Q rest (a.put o.dst undef) (w.setRow g #[.int .i64 a0, .int .i64 a1, .int .i64 a2])) : wpList Tryz.prog ops Q (o :: rest) a w :=
  wpList_store_row hgd 49 x y ho g _ hx hy t _ hg (by rw [szrStS]; rfl) rfl (by simp [Value.oneCell']) h
theorem wpList_store4 (hgd : o.guard = none) (x y : Operand) (ho : o.op = .store 51 x y)
    (g : Nat) (a0 a1 a2 a3 : Int) (hx : a.eval x = .pointer (some ⟨g, 0, none⟩)) (hy : a.eval y = .agg #[.int .i64 a0, .int .u64 a1, .int .i64 a2, .int .i64 a3])
    (t : TypeId) (b0 b1 b2 b3 : Value) (hg : Bx w g t #[b0, b1, b2, b3]) (h : wpList Tryz.prog ops Q rest (a.put o.dst undef) (w.setRow g #[.int .i64 a0, .int .u64 a1, .int .i64 a2, .int .i64 a3])) : wpList Tryz.prog ops Q (o :: rest) a w :=
  wpList_store_row hgd 51 x y ho g _ hx hy t _ hg (by rw [szrStX]; rfl) rfl (by simp [Value.oneCell']) h
end
set_option maxHeartbeats 4000000 in
set_option maxRecDepth 100000 in
theorem rreg10 (w0 w : World) (base p gt gx : Nat) (v0 v : Value) (M : List Bool) (n L D : Nat) (X : Array Value) (E1 : RWS w0 w base p v0 v M) (K1 : Kx w p v gt 49 #[.int .i64 (n : Int), .int .i64 (L : Int), .int .i64 (D : Int)]) (J1 : Kx w p v gx 51 X) (bL oL len cap i : Nat) (t : Int) (hc0 : w0.cell? ⟨bL, oL + i * 2, none⟩ = some (.int .i64 t)) (hbL : bL < base) (hi : i < len) (hln : len ≤ 1000)
    (y0 y1 y2 er : Int) (PM : List Bool → Prop) (P : ∀ wx, RW wx base p v M → Calls Tryz.prog 19 #[.pointer (some ⟨p, 0, none⟩), .agg #[.int .i64 (n : Int), .int .i64 (L : Int), .int .i64 (D : Int)], .int .i64 t] wx fun e w' => e = .returned (.tuple #[.agg #[.int .i64 y0, .int .i64 y1, .int .i64 y2], .int .i64 er]) ∧ ∃ v' M', RW w' base p v' M' ∧ PM M' ∧ Did wx w' base p v v')
    (u1 u2 u3 u8 u9 u10 u11 u12 u13 u14 u15 u16 u17 u18 u19 u20 u21 u22 u23 u24 u25 u26 u27 u28 u29 u30 u31 u32 u33 u34 u35 u36 u37 u38 u39 u40 u41 u42 u43 u44 u45 u46 u47 u48 u49 u50 u51 u52 u53 u54 u55 u56 u57 u58 u59 u60 u61 u62 u63 u64 u65 u66 : Value) (Q : Exit → Act → World → Prop)
    (h : ∀ gN w5 v3 M3, RWS w0 w5 base p v0 v3 M3 → PM M3 → Kx w5 p v3 gt 49 #[.int .i64 (n : Int), .int .i64 (L : Int), .int .i64 (D : Int)] → Kx w5 p v3 gx 51 X → Kx w5 p v3 gN 49 #[.int .i64 y0, .int .i64 y1, .int .i64 y2] → gN ≠ gt → gN ≠ gx → w0.heap.size ≤ gN → Q .normal { tmps := (List.toArray ((.slice (some ⟨bL, oL, none⟩) len cap :: u1 :: u2 :: u3 :: .pointer (some ⟨p, 0, none⟩) :: .pointer (some ⟨gt, 0, none⟩) :: .pointer (some ⟨gx, 0, none⟩) :: .int .i64 (i : Int) :: .pointer (some ⟨gN, 0, none⟩) :: .int .i64 er :: u10 :: u11 :: u12 :: u13 :: u14 :: u15 :: u16 :: u17 :: u18 :: u19 :: u20 :: u21 :: u22 :: u23 :: u24 :: u25 :: u26 :: u27 :: .tuple #[.agg #[.int .i64 y0, .int .i64 y1, .int .i64 y2], .int .i64 er] :: .pointer (some ⟨p, 0, none⟩) :: .agg #[.int .i64 (n : Int), .int .i64 (L : Int), .int .i64 (D : Int)] :: .slice (some ⟨bL, oL, none⟩) len cap :: .int .i64 (i : Int) :: .pointer (some ⟨bL, oL + i * 2, none⟩) :: .pointer (some ⟨bL, oL + i * 2, none⟩) :: .int .i64 t :: .tuple #[.agg #[.int .i64 y0, .int .i64 y1, .int .i64 y2], .int .i64 er] :: .agg #[.int .i64 y0, .int .i64 y1, .int .i64 y2] :: .int .i64 er :: u39 :: u40 :: u41 :: u42 :: u43 :: u44 :: u45 :: u46 :: u47 :: u48 :: u49 :: u50 :: u51 :: u52 :: u53 :: u54 :: u55 :: u56 :: u57 :: u58 :: u59 :: u60 :: u61 :: u62 :: u63 :: u64 :: u65 :: u66 :: []) : List Value)), defers := [] } w5) :
    (Code.region 10 #[{ dst := some 29, op := Op.move (Operand.tmp 4), type := 44, pos := "ref.go:24", after := #[], guard := none }, { dst := some 30, op := Op.load 49 (Operand.tmp 5), type := 49, pos := "ref.go:24", after := #[], guard := none }, { dst := some 31, op := Op.move (Operand.tmp 0), type := 22, pos := "ref.go:24", after := #[], guard := none }, { dst := some 32, op := Op.move (Operand.tmp 7), type := 3, pos := "ref.go:24", after := #[], guard := none }, { dst := some 33, op := Op.indexAddr 22 (Operand.tmp 31) (Operand.tmp 32), type := 0, pos := "ref.go:24", after := #[{ on := 2, ground := Ground.data }, { on := 3, ground := Ground.data }], guard := none }, { dst := some 34, op := Op.fieldAddr 33 (Operand.tmp 33) 0, type := 0, pos := "ref.go:24", after := #[{ on := 4, ground := Ground.data }], guard := none }, { dst := some 35, op := Op.load 3 (Operand.tmp 34), type := 3, pos := "ref.go:24", after := #[{ on := 5, ground := Ground.data }], guard := none }, { dst := some 36, op := Op.call { callee := Callee.value (Operand.func 19), args := #[Operand.tmp 29, Operand.tmp 30, Operand.tmp 35], argTypes := #[44, 49, 3] }, type := 53, pos := "ref.go:24", after := #[{ on := 0, ground := Ground.data }, { on := 1, ground := Ground.data }, { on := 6, ground := Ground.data }], guard := none }, { dst := some 28, op := Op.move (Operand.tmp 36), type := 53, pos := "ref.go:24", after := #[{ on := 7, ground := Ground.data }], guard := none }, { dst := some 37, op := Op.extract (Operand.tmp 28) 0, type := 49, pos := "ref.go:24", after := #[{ on := 8, ground := Ground.data }], guard := none }, { dst := some 38, op := Op.extract (Operand.tmp 28) 1, type := 25, pos := "ref.go:24", after := #[{ on := 8, ground := Ground.data }, { on := 12, ground := Ground.gcOnly Departure.lateStores }], guard := none }, { dst := some 8, op := Op.alloc 49, type := 0, pos := "ref.go:24", after := #[], guard := none }, { dst := none, op := Op.store 49 (Operand.tmp 8) (Operand.tmp 37), type := 0, pos := "ref.go:24", after := #[{ on := 11, ground := Ground.data }, { on := 9, ground := Ground.data }, { on := 7, ground := Ground.chain }, { on := 0, ground := Ground.phase }, { on := 1, ground := Ground.phase }, { on := 2, ground := Ground.phase }, { on := 3, ground := Ground.phase }, { on := 4, ground := Ground.phase }, { on := 5, ground := Ground.phase }, { on := 6, ground := Ground.phase }, { on := 7, ground := Ground.phase }, { on := 8, ground := Ground.phase }, { on := 9, ground := Ground.phase }, { on := 10, ground := Ground.textOnly Departure.lateStores }, { on := 11, ground := Ground.phase }], guard := none }, { dst := some 9, op := Op.assign (Operand.tmp 38), type := 25, pos := "ref.go:24", after := #[{ on := 10, ground := Ground.data }, { on := 12, ground := Ground.chain }, { on := 0, ground := Ground.phase }, { on := 1, ground := Ground.phase }, { on := 2, ground := Ground.phase }, { on := 3, ground := Ground.phase }, { on := 4, ground := Ground.phase }, { on := 5, ground := Ground.phase }, { on := 6, ground := Ground.phase }, { on := 7, ground := Ground.phase }, { on := 8, ground := Ground.phase }, { on := 9, ground := Ground.phase }, { on := 10, ground := Ground.phase }, { on := 11, ground := Ground.phase }, { on := 12, ground := Ground.phase }], guard := none }] true).wp Tryz.prog Q { tmps := (List.toArray ((.slice (some ⟨bL, oL, none⟩) len cap :: u1 :: u2 :: u3 :: .pointer (some ⟨p, 0, none⟩) :: .pointer (some ⟨gt, 0, none⟩) :: .pointer (some ⟨gx, 0, none⟩) :: .int .i64 (i : Int) :: u8 :: u9 :: u10 :: u11 :: u12 :: u13 :: u14 :: u15 :: u16 :: u17 :: u18 :: u19 :: u20 :: u21 :: u22 :: u23 :: u24 :: u25 :: u26 :: u27 :: u28 :: u29 :: u30 :: u31 :: u32 :: u33 :: u34 :: u35 :: u36 :: u37 :: u38 :: u39 :: u40 :: u41 :: u42 :: u43 :: u44 :: u45 :: u46 :: u47 :: u48 :: u49 :: u50 :: u51 :: u52 :: u53 :: u54 :: u55 :: u56 :: u57 :: u58 :: u59 :: u60 :: u61 :: u62 :: u63 :: u64 :: u65 :: u66 :: []) : List Value)), defers := [] } w := by
  have i1 : (i : Int) < (len : Int) := by omega
  have i0 : (0 : Int) ≤ (i : Int) := by omega
  have hzz := zrStS
  have C1 := (E1.d.bel.cell (p := ⟨bL, oL + i * 2, none⟩) hbL).trans hc0
  replace P := hide P
  replace h := hide h
  replace E1 := hide E1
  replace K1 := hide K1
  replace J1 := hide J1
  refine wp_region_noPanic ?_
  refine wp_region_held_drew (S := (fun w' => (w'.cell? ⟨gt, 0, none⟩ = some (.int .i64 (n : Int)) ∧ w'.cell? ⟨gt, 1, none⟩ = some (.int .i64 (L : Int)) ∧ w'.cell? ⟨gt, 2, none⟩ = some (.int .i64 (D : Int))) ∧ w'.cell? ⟨bL, oL + i * 2, none⟩ = some (.int .i64 t))) (by kernel_rfl) ⟨K1.out.bx.three, C1⟩ (fun hH0 => ?_)
  refine wpAnyH_take (i := 0) (oi := { dst := some 29, op := Op.move (Operand.tmp 4), type := 44, pos := "ref.go:24", after := #[], guard := none }) (v := ?_) rfl (by kernel_rfl) (by kernel_rfl) (by kernel_rfl) (fun _ _ _ h => h) (Or.inl ⟨by rfl, ?_⟩) hH0 ?_
  rotate_left
  · intro w' hw'
    obtain ⟨⟨c0, c1, c2⟩, s0⟩ := hw'
    go_simp
    try with_reducible rfl
  try simp only [Act.put, List.setIfInBounds_toArray, List.set_cons_zero, List.set_cons_succ]
  refine wpAnyH_take (i := 1) (oi := { dst := some 30, op := Op.load 49 (Operand.tmp 5), type := 49, pos := "ref.go:24", after := #[], guard := none }) (v := ?_) rfl (by kernel_rfl) (by kernel_rfl) (by kernel_rfl) (fun _ _ _ h => h) (Or.inl ⟨by rfl, ?_⟩) hH0 ?_
  rotate_left
  · intro w' hw'
    obtain ⟨⟨c0, c1, c2⟩, s0⟩ := hw'
    go_simp
    try with_reducible rfl
  try simp only [Act.put, List.setIfInBounds_toArray, List.set_cons_zero, List.set_cons_succ]
  refine wpAnyH_take (i := 2) (oi := { dst := some 31, op := Op.move (Operand.tmp 0), type := 22, pos := "ref.go:24", after := #[], guard := none }) (v := ?_) rfl (by kernel_rfl) (by kernel_rfl) (by kernel_rfl) (fun _ _ _ h => h) (Or.inl ⟨by rfl, ?_⟩) hH0 ?_
  rotate_left
  · intro w' hw'
    obtain ⟨⟨c0, c1, c2⟩, s0⟩ := hw'
    go_simp
    try with_reducible rfl
  try simp only [Act.put, List.setIfInBounds_toArray, List.set_cons_zero, List.set_cons_succ]
  refine wpAnyH_take (i := 3) (oi := { dst := some 32, op := Op.move (Operand.tmp 7), type := 3, pos := "ref.go:24", after := #[], guard := none }) (v := ?_) rfl (by kernel_rfl) (by kernel_rfl) (by kernel_rfl) (fun _ _ _ h => h) (Or.inl ⟨by rfl, ?_⟩) hH0 ?_
  rotate_left
  · intro w' hw'
    obtain ⟨⟨c0, c1, c2⟩, s0⟩ := hw'
    go_simp
    try with_reducible rfl
  try simp only [Act.put, List.setIfInBounds_toArray, List.set_cons_zero, List.set_cons_succ]
  refine wpAnyH_take (i := 4) (oi := { dst := some 33, op := Op.indexAddr 22 (Operand.tmp 31) (Operand.tmp 32), type := 0, pos := "ref.go:24", after := #[{ on := 2, ground := Ground.data }, { on := 3, ground := Ground.data }], guard := none }) (v := ?_) rfl (by kernel_rfl) (by kernel_rfl) (by kernel_rfl) (fun _ _ _ h => h) (Or.inl ⟨by rfl, ?_⟩) hH0 ?_
  rotate_left
  · intro w' hw'
    obtain ⟨⟨c0, c1, c2⟩, s0⟩ := hw'
    go_simp
    try with_reducible rfl
  try simp only [Act.put, List.setIfInBounds_toArray, List.set_cons_zero, List.set_cons_succ]
  refine wpAnyH_take (i := 5) (oi := { dst := some 34, op := Op.fieldAddr 33 (Operand.tmp 33) 0, type := 0, pos := "ref.go:24", after := #[{ on := 4, ground := Ground.data }], guard := none }) (v := ?_) rfl (by kernel_rfl) (by kernel_rfl) (by kernel_rfl) (fun _ _ _ h => h) (Or.inl ⟨by rfl, ?_⟩) hH0 ?_
  rotate_left
  · intro w' hw'
    obtain ⟨⟨c0, c1, c2⟩, s0⟩ := hw'
    go_simp
    try with_reducible rfl
  try simp only [Act.put, List.setIfInBounds_toArray, List.set_cons_zero, List.set_cons_succ]
  refine wpAnyH_take (i := 6) (oi := { dst := some 35, op := Op.load 3 (Operand.tmp 34), type := 3, pos := "ref.go:24", after := #[{ on := 5, ground := Ground.data }], guard := none }) (v := ?_) rfl (by kernel_rfl) (by kernel_rfl) (by kernel_rfl) (fun _ _ _ h => h) (Or.inl ⟨by rfl, ?_⟩) hH0 ?_
  rotate_left
  · intro w' hw'
    obtain ⟨⟨c0, c1, c2⟩, s0⟩ := hw'
    go_simp
    try with_reducible rfl
  try simp only [Act.put, List.setIfInBounds_toArray, List.set_cons_zero, List.set_cons_succ]
  refine wpAnyH_ready (rs := [7, 11]) (by kernel_rfl) (by simp) ?_
  refine AllReadyH.cons (o := { dst := some 36, op := Op.call { callee := Callee.value (Operand.func 19), args := #[Operand.tmp 29, Operand.tmp 30, Operand.tmp 35], argTypes := #[44, 49, 3] }, type := 53, pos := "ref.go:24", after := #[{ on := 0, ground := Ground.data }, { on := 1, ground := Ground.data }, { on := 6, ground := Ground.data }], guard := none }) rfl (fun K hK => ?_) (AllReadyH.cons (o := { dst := some 8, op := Op.alloc 49, type := 0, pos := "ref.go:24", after := #[], guard := none }) rfl (fun K hK => ?_) AllReadyH.nil)
  · replace h := h.out
    go_simp
    refine (P.out w.drew E1.out.drew.rw).mono ?_
    rintro e w3 ⟨rfl, v3, M3, W3, hPM, D3⟩
    have E3 := hide (E1.out.drew.put D3 W3)
    have K3 := hide (K1.out.drew.did D3)
    have J3 := hide (J1.out.drew.did D3)
    have C3 := (E3.out.d.bel.cell (p := ⟨bL, oL + i * 2, none⟩) hbL).trans hc0
    clear W3 D3 P E1 K1 J1
    refine hK.out _ _ ⟨K3.out.bx.three, C3⟩ (fun hH1 => ?_)
    clear hK
    try simp only [Act.put, List.setIfInBounds_toArray, List.set_cons_zero, List.set_cons_succ]
    refine wpAnyH_take (i := 8) (oi := { dst := some 28, op := Op.move (Operand.tmp 36), type := 53, pos := "ref.go:24", after := #[{ on := 7, ground := Ground.data }], guard := none }) (v := ?_) rfl (by kernel_rfl) (by kernel_rfl) (by kernel_rfl) (fun _ _ _ h => h) (Or.inl ⟨by rfl, ?_⟩) hH1 ?_
    rotate_left
    · intro w' hw'
      obtain ⟨⟨c0, c1, c2⟩, s0⟩ := hw'
      go_simp
      try with_reducible rfl
    try simp only [Act.put, List.setIfInBounds_toArray, List.set_cons_zero, List.set_cons_succ]
    refine wpAnyH_take (i := 9) (oi := { dst := some 37, op := Op.extract (Operand.tmp 28) 0, type := 49, pos := "ref.go:24", after := #[{ on := 8, ground := Ground.data }], guard := none }) (v := ?_) rfl (by kernel_rfl) (by kernel_rfl) (by kernel_rfl) (fun _ _ _ h => h) (Or.inl ⟨by rfl, ?_⟩) hH1 ?_
    rotate_left
    · intro w' hw'
      obtain ⟨⟨c0, c1, c2⟩, s0⟩ := hw'
      go_simp
      try with_reducible rfl
    try simp only [Act.put, List.setIfInBounds_toArray, List.set_cons_zero, List.set_cons_succ]
    refine wpAnyH_take (i := 10) (oi := { dst := some 38, op := Op.extract (Operand.tmp 28) 1, type := 25, pos := "ref.go:24", after := #[{ on := 8, ground := Ground.data }, { on := 12, ground := Ground.gcOnly Departure.lateStores }], guard := none }) (v := ?_) rfl (by kernel_rfl) (by kernel_rfl) (by kernel_rfl) (fun _ _ _ h => h) (Or.inl ⟨by rfl, ?_⟩) hH1 ?_
    rotate_left
    · intro w' hw'
      obtain ⟨⟨c0, c1, c2⟩, s0⟩ := hw'
      go_simp
      try with_reducible rfl
    try simp only [Act.put, List.setIfInBounds_toArray, List.set_cons_zero, List.set_cons_succ]
    refine wpAnyH_ready (rs := [11]) (by kernel_rfl) (by simp) ?_
    refine AllReadyH.cons (o := { dst := some 8, op := Op.alloc 49, type := 0, pos := "ref.go:24", after := #[], guard := none }) rfl (fun K hK => ?_) AllReadyH.nil
    go_simp
    have C4 := (((E3.out.alloc (.cells #[.int .i64 0, .int .i64 0, .int .i64 0] 49)).d.bel).cell (p := ⟨bL, oL + i * 2, none⟩) hbL).trans hc0
    refine hK.out _ _ ⟨(K3.out.bx.alloc (.cells #[.int .i64 0, .int .i64 0, .int .i64 0] 49)).three, C4⟩ (fun hH2 => ?_)
    clear hK
    try simp only [Act.put, List.setIfInBounds_toArray, List.set_cons_zero, List.set_cons_succ]
    have E4 := hide (E3.out.alloc (.cells #[.int .i64 0, .int .i64 0, .int .i64 0] 49))
    have K4 := hide (K3.out.alloc (.cells #[.int .i64 0, .int .i64 0, .int .i64 0] 49))
    have J4 := hide (J3.out.alloc (.cells #[.int .i64 0, .int .i64 0, .int .i64 0] 49))
    have X4 := hide (Kx.newR E3.out.rw 49 #[.int .i64 0, .int .i64 0, .int .i64 0])
    obtain ⟨gN, hgN⟩ : ∃ gN, w3.heap.size = gN := ⟨_, rfl⟩
    have hgq : Hid (gt ≠ gN ∧ gx ≠ gN ∧ w0.heap.size ≤ gN) := by have := K3.out.bx.lt; have := J3.out.bx.lt; have := E3.out.d.bel.size; exact ⟨by omega, by omega, by omega⟩
    simp only [hgN] at X4 ⊢
    generalize w3.alloc (.cells #[.int .i64 0, .int .i64 0, .int .i64 0] 49) = w4 at *
    clear E3 K3 J3 hgN
    refine wpAnyH_ready (rs := [12]) (by kernel_rfl) (by simp) ?_
    refine AllReadyH.cons (o := { dst := none, op := Op.store 49 (Operand.tmp 8) (Operand.tmp 37), type := 0, pos := "ref.go:24", after := #[{ on := 11, ground := Ground.data }, { on := 9, ground := Ground.data }, { on := 7, ground := Ground.chain }, { on := 0, ground := Ground.phase }, { on := 1, ground := Ground.phase }, { on := 2, ground := Ground.phase }, { on := 3, ground := Ground.phase }, { on := 4, ground := Ground.phase }, { on := 5, ground := Ground.phase }, { on := 6, ground := Ground.phase }, { on := 7, ground := Ground.phase }, { on := 8, ground := Ground.phase }, { on := 9, ground := Ground.phase }, { on := 10, ground := Ground.textOnly Departure.lateStores }, { on := 11, ground := Ground.phase }], guard := none }) rfl (fun K hK => ?_) AllReadyH.nil
    refine step_store3 rfl (.tmp 8) (.tmp 37) rfl gN _ _ _ rfl rfl 49 _ _ _ X4.out.bx ?_
    have bN := hide (but_setRow w4 gN #[.int .i64 y0, .int .i64 y1, .int .i64 y2])
    have E5 := hide (E4.out.but bN.out hgq.out.2.2 X4.out.nf)
    have K5 := hide (K4.out.but bN.out hgq.out.1)
    have J5 := hide (J4.out.but bN.out hgq.out.2.1)
    have X5 : Hid (Kx (w4.setRow gN #[.int .i64 y0, .int .i64 y1, .int .i64 y2]) p v3 gN 49 #[.int .i64 y0, .int .i64 y1, .int .i64 y2]) := ⟨X4.out.bx.setRow #[.int .i64 y0, .int .i64 y1, .int .i64 y2], X4.out.nf⟩
    have C5 := (E5.out.d.bel.cell (p := ⟨bL, oL + i * 2, none⟩) hbL).trans hc0
    refine hK.out _ _ ⟨K5.out.bx.three, C5⟩ (fun hH3 => ?_)
    clear hK
    try simp only [Act.put, List.setIfInBounds_toArray, List.set_cons_zero, List.set_cons_succ]
    refine wpAnyH_take (i := 13) (oi := { dst := some 9, op := Op.assign (Operand.tmp 38), type := 25, pos := "ref.go:24", after := #[{ on := 10, ground := Ground.data }, { on := 12, ground := Ground.chain }, { on := 0, ground := Ground.phase }, { on := 1, ground := Ground.phase }, { on := 2, ground := Ground.phase }, { on := 3, ground := Ground.phase }, { on := 4, ground := Ground.phase }, { on := 5, ground := Ground.phase }, { on := 6, ground := Ground.phase }, { on := 7, ground := Ground.phase }, { on := 8, ground := Ground.phase }, { on := 9, ground := Ground.phase }, { on := 10, ground := Ground.phase }, { on := 11, ground := Ground.phase }, { on := 12, ground := Ground.phase }], guard := none }) (v := ?_) rfl (by kernel_rfl) (by kernel_rfl) (by kernel_rfl) (fun _ _ _ h => h) (Or.inl ⟨by rfl, ?_⟩) hH3 ?_
    rotate_left
    · intro w' hw'
      obtain ⟨⟨c0, c1, c2⟩, s0⟩ := hw'
      go_simp
      try with_reducible rfl
    try simp only [Act.put, List.setIfInBounds_toArray, List.set_cons_zero, List.set_cons_succ]
    refine wpAnyH_done (by kernel_rfl) ?_ _
    refine NoPanic.normal ?_
    exact h gN _ v3 M3 E5.out hPM K5.out J5.out X5.out hgq.out.1.symm hgq.out.2.1.symm hgq.out.2.2
  · replace h := h.out
    go_simp
    have Ea := hide ((E1.out.alloc (.cells #[.int .i64 0, .int .i64 0, .int .i64 0] 49)).drew)
    have Ka := hide ((K1.out.alloc (.cells #[.int .i64 0, .int .i64 0, .int .i64 0] 49)).drew)
    have Ja := hide ((J1.out.alloc (.cells #[.int .i64 0, .int .i64 0, .int .i64 0] 49)).drew)
    have Xa := hide ((Kx.newR E1.out.rw 49 #[.int .i64 0, .int .i64 0, .int .i64 0]).drew)
    have Ca := (Ea.out.d.bel.cell (p := ⟨bL, oL + i * 2, none⟩) hbL).trans hc0
    refine hK.out _ _ ⟨Ka.out.bx.three, Ca⟩ (fun hH1 => ?_)
    clear hK
    try simp only [Act.put, List.setIfInBounds_toArray, List.set_cons_zero, List.set_cons_succ]
    refine wpAnyH_ready (rs := [7]) (by kernel_rfl) (by simp) ?_
    refine AllReadyH.cons (o := { dst := some 36, op := Op.call { callee := Callee.value (Operand.func 19), args := #[Operand.tmp 29, Operand.tmp 30, Operand.tmp 35], argTypes := #[44, 49, 3] }, type := 53, pos := "ref.go:24", after := #[{ on := 0, ground := Ground.data }, { on := 1, ground := Ground.data }, { on := 6, ground := Ground.data }], guard := none }) rfl (fun K hK => ?_) AllReadyH.nil
    go_simp
    refine (P.out _ Ea.out.rw).mono ?_
    rintro e w4 ⟨rfl, v3, M3, W3, hPM, D3⟩
    have E4 := hide (Ea.out.put D3 W3)
    have K4 := hide (Ka.out.did D3)
    have J4 := hide (Ja.out.did D3)
    have X4 := hide (Xa.out.did D3)
    have C4 := (E4.out.d.bel.cell (p := ⟨bL, oL + i * 2, none⟩) hbL).trans hc0
    obtain ⟨gN, hgN⟩ : ∃ gN, w.heap.size = gN := ⟨_, rfl⟩
    have hgq : Hid (gt ≠ gN ∧ gx ≠ gN ∧ w0.heap.size ≤ gN) := by have := K1.out.bx.lt; have := J1.out.bx.lt; have := E1.out.d.bel.size; exact ⟨by omega, by omega, by omega⟩
    simp only [hgN] at X4 ⊢
    clear W3 D3 P Ea Ka Ja Xa E1 K1 J1
    refine hK.out _ _ ⟨K4.out.bx.three, C4⟩ (fun hH2 => ?_)
    clear hK
    try simp only [Act.put, List.setIfInBounds_toArray, List.set_cons_zero, List.set_cons_succ]
    refine wpAnyH_take (i := 8) (oi := { dst := some 28, op := Op.move (Operand.tmp 36), type := 53, pos := "ref.go:24", after := #[{ on := 7, ground := Ground.data }], guard := none }) (v := ?_) rfl (by kernel_rfl) (by kernel_rfl) (by kernel_rfl) (fun _ _ _ h => h) (Or.inl ⟨by rfl, ?_⟩) hH2 ?_
    rotate_left
    · intro w' hw'
      obtain ⟨⟨c0, c1, c2⟩, s0⟩ := hw'
      go_simp
      try with_reducible rfl
    try simp only [Act.put, List.setIfInBounds_toArray, List.set_cons_zero, List.set_cons_succ]
    refine wpAnyH_take (i := 9) (oi := { dst := some 37, op := Op.extract (Operand.tmp 28) 0, type := 49, pos := "ref.go:24", after := #[{ on := 8, ground := Ground.data }], guard := none }) (v := ?_) rfl (by kernel_rfl) (by kernel_rfl) (by kernel_rfl) (fun _ _ _ h => h) (Or.inl ⟨by rfl, ?_⟩) hH2 ?_
    rotate_left
    · intro w' hw'
      obtain ⟨⟨c0, c1, c2⟩, s0⟩ := hw'
      go_simp
      try with_reducible rfl
    try simp only [Act.put, List.setIfInBounds_toArray, List.set_cons_zero, List.set_cons_succ]
    refine wpAnyH_take (i := 10) (oi := { dst := some 38, op := Op.extract (Operand.tmp 28) 1, type := 25, pos := "ref.go:24", after := #[{ on := 8, ground := Ground.data }, { on := 12, ground := Ground.gcOnly Departure.lateStores }], guard := none }) (v := ?_) rfl (by kernel_rfl) (by kernel_rfl) (by kernel_rfl) (fun _ _ _ h => h) (Or.inl ⟨by rfl, ?_⟩) hH2 ?_
    rotate_left
    · intro w' hw'
      obtain ⟨⟨c0, c1, c2⟩, s0⟩ := hw'
      go_simp
      try with_reducible rfl
    try simp only [Act.put, List.setIfInBounds_toArray, List.set_cons_zero, List.set_cons_succ]
    refine wpAnyH_ready (rs := [12]) (by kernel_rfl) (by simp) ?_
    refine AllReadyH.cons (o := { dst := none, op := Op.store 49 (Operand.tmp 8) (Operand.tmp 37), type := 0, pos := "ref.go:24", after := #[{ on := 11, ground := Ground.data }, { on := 9, ground := Ground.data }, { on := 7, ground := Ground.chain }, { on := 0, ground := Ground.phase }, { on := 1, ground := Ground.phase }, { on := 2, ground := Ground.phase }, { on := 3, ground := Ground.phase }, { on := 4, ground := Ground.phase }, { on := 5, ground := Ground.phase }, { on := 6, ground := Ground.phase }, { on := 7, ground := Ground.phase }, { on := 8, ground := Ground.phase }, { on := 9, ground := Ground.phase }, { on := 10, ground := Ground.textOnly Departure.lateStores }, { on := 11, ground := Ground.phase }], guard := none }) rfl (fun K hK => ?_) AllReadyH.nil
    refine step_store3 rfl (.tmp 8) (.tmp 37) rfl gN _ _ _ rfl rfl 49 _ _ _ X4.out.bx ?_
    have bN := hide (but_setRow w4 gN #[.int .i64 y0, .int .i64 y1, .int .i64 y2])
    have E5 := hide (E4.out.but bN.out hgq.out.2.2 X4.out.nf)
    have K5 := hide (K4.out.but bN.out hgq.out.1)
    have J5 := hide (J4.out.but bN.out hgq.out.2.1)
    have X5 : Hid (Kx (w4.setRow gN #[.int .i64 y0, .int .i64 y1, .int .i64 y2]) p v3 gN 49 #[.int .i64 y0, .int .i64 y1, .int .i64 y2]) := ⟨X4.out.bx.setRow #[.int .i64 y0, .int .i64 y1, .int .i64 y2], X4.out.nf⟩
    have C5 := (E5.out.d.bel.cell (p := ⟨bL, oL + i * 2, none⟩) hbL).trans hc0
    refine hK.out _ _ ⟨K5.out.bx.three, C5⟩ (fun hH3 => ?_)
    clear hK
    try simp only [Act.put, List.setIfInBounds_toArray, List.set_cons_zero, List.set_cons_succ]
    refine wpAnyH_take (i := 13) (oi := { dst := some 9, op := Op.assign (Operand.tmp 38), type := 25, pos := "ref.go:24", after := #[{ on := 10, ground := Ground.data }, { on := 12, ground := Ground.chain }, { on := 0, ground := Ground.phase }, { on := 1, ground := Ground.phase }, { on := 2, ground := Ground.phase }, { on := 3, ground := Ground.phase }, { on := 4, ground := Ground.phase }, { on := 5, ground := Ground.phase }, { on := 6, ground := Ground.phase }, { on := 7, ground := Ground.phase }, { on := 8, ground := Ground.phase }, { on := 9, ground := Ground.phase }, { on := 10, ground := Ground.phase }, { on := 11, ground := Ground.phase }, { on := 12, ground := Ground.phase }], guard := none }) (v := ?_) rfl (by kernel_rfl) (by kernel_rfl) (by kernel_rfl) (fun _ _ _ h => h) (Or.inl ⟨by rfl, ?_⟩) hH3 ?_
    rotate_left
    · intro w' hw'
      obtain ⟨⟨c0, c1, c2⟩, s0⟩ := hw'
      go_simp
      try with_reducible rfl
    try simp only [Act.put, List.setIfInBounds_toArray, List.set_cons_zero, List.set_cons_succ]
    refine wpAnyH_done (by kernel_rfl) ?_ _
    refine NoPanic.normal ?_
    exact h gN _ v3 M3 E5.out hPM K5.out J5.out X5.out hgq.out.1.symm hgq.out.2.1.symm hgq.out.2.2
set_option maxHeartbeats 4000000 in
set_option maxRecDepth 100000 in
theorem rreg14 (w0 w : World) (base p gt gx : Nat) (v0 v : Value) (M : List Bool) (n U a b : Nat) (X : Array Value) (E1 : RWS w0 w base p v0 v M) (K1 : Kx w p v gt 49 X) (J1 : Kx w p v gx 51 #[.int .i64 (n : Int), .int .u64 (U : Int), .int .i64 (a : Int), .int .i64 (b : Int)]) (hgt : gt ≠ gx) (hgx : w0.heap.size ≤ gx) (bL oL len cap i x : Nat) (hc0 : w0.cell? ⟨bL, oL + i * 2 + 1, none⟩ = some (.int .u64 (x : Int))) (hbL : bL < base) (hi : i < len) (hln : len ≤ 1000)
    (y0 y1 y2 y3 : Int) (PM : List Bool → Prop) (P : ∀ wx, RW wx base p v M → Calls Tryz.prog 20 #[.pointer (some ⟨p, 0, none⟩), .agg #[.int .i64 (n : Int), .int .u64 (U : Int), .int .i64 (a : Int), .int .i64 (b : Int)], .int .u64 (x : Int)] wx fun e w' => e = .returned (.tuple #[.agg #[.int .i64 y0, .int .u64 y1, .int .i64 y2, .int .i64 y3], .int .i64 0]) ∧ ∃ v' M', RW w' base p v' M' ∧ PM M' ∧ Did wx w' base p v v')
    (u1 u2 u3 u8 u9 u10 u11 u12 u13 u14 u15 u16 u17 u18 u19 u20 u21 u22 u23 u24 u25 u26 u27 u28 u29 u30 u31 u32 u33 u34 u35 u36 u37 u38 u39 u40 u41 u42 u43 u44 u45 u46 u47 u48 u49 u50 u51 u52 u53 u54 u55 u56 u57 u58 u59 u60 u61 u62 u63 u64 u65 u66 : Value) (Q : Exit → Act → World → Prop)
    (h : ∀ w5 v3 M3, RWS w0 w5 base p v0 v3 M3 → PM M3 → Kx w5 p v3 gt 49 X → Kx w5 p v3 gx 51 #[.int .i64 y0, .int .u64 y1, .int .i64 y2, .int .i64 y3] → Q .normal { tmps := (List.toArray ((.slice (some ⟨bL, oL, none⟩) len cap :: u1 :: u2 :: u3 :: .pointer (some ⟨p, 0, none⟩) :: .pointer (some ⟨gt, 0, none⟩) :: .pointer (some ⟨gx, 0, none⟩) :: .int .i64 (i : Int) :: u8 :: u9 :: u10 :: u11 :: u12 :: u13 :: u14 :: u15 :: u16 :: u17 :: u18 :: u19 :: u20 :: u21 :: u22 :: u23 :: u24 :: u25 :: u26 :: u27 :: u28 :: u29 :: u30 :: u31 :: u32 :: u33 :: u34 :: u35 :: u36 :: u37 :: u38 :: u39 :: u40 :: u41 :: .tuple #[.agg #[.int .i64 y0, .int .u64 y1, .int .i64 y2, .int .i64 y3], .int .i64 0] :: .pointer (some ⟨p, 0, none⟩) :: .agg #[.int .i64 (n : Int), .int .u64 (U : Int), .int .i64 (a : Int), .int .i64 (b : Int)] :: .slice (some ⟨bL, oL, none⟩) len cap :: .int .i64 (i : Int) :: .pointer (some ⟨bL, oL + i * 2, none⟩) :: .pointer (some ⟨bL, oL + i * 2 + 1, none⟩) :: .int .u64 (x : Int) :: .tuple #[.agg #[.int .i64 y0, .int .u64 y1, .int .i64 y2, .int .i64 y3], .int .i64 0] :: .agg #[.int .i64 y0, .int .u64 y1, .int .i64 y2, .int .i64 y3] :: .int .i64 0 :: u53 :: u54 :: u55 :: u56 :: u57 :: u58 :: u59 :: u60 :: u61 :: u62 :: u63 :: u64 :: u65 :: u66 :: []) : List Value)), defers := [] } w5) :
    (Code.region 14 #[{ dst := some 43, op := Op.move (Operand.tmp 4), type := 44, pos := "ref.go:29", after := #[], guard := none }, { dst := some 44, op := Op.load 51 (Operand.tmp 6), type := 51, pos := "ref.go:29", after := #[], guard := none }, { dst := some 45, op := Op.move (Operand.tmp 0), type := 22, pos := "ref.go:29", after := #[], guard := none }, { dst := some 46, op := Op.move (Operand.tmp 7), type := 3, pos := "ref.go:29", after := #[], guard := none }, { dst := some 47, op := Op.indexAddr 22 (Operand.tmp 45) (Operand.tmp 46), type := 0, pos := "ref.go:29", after := #[{ on := 2, ground := Ground.data }, { on := 3, ground := Ground.data }], guard := none }, { dst := some 48, op := Op.fieldAddr 33 (Operand.tmp 47) 1, type := 0, pos := "ref.go:29", after := #[{ on := 4, ground := Ground.data }], guard := none }, { dst := some 49, op := Op.load 31 (Operand.tmp 48), type := 31, pos := "ref.go:29", after := #[{ on := 5, ground := Ground.data }], guard := none }, { dst := some 50, op := Op.call { callee := Callee.value (Operand.func 20), args := #[Operand.tmp 43, Operand.tmp 44, Operand.tmp 49], argTypes := #[44, 51, 31] }, type := 55, pos := "ref.go:29", after := #[{ on := 0, ground := Ground.data }, { on := 1, ground := Ground.data }, { on := 6, ground := Ground.data }], guard := none }, { dst := some 42, op := Op.move (Operand.tmp 50), type := 55, pos := "ref.go:29", after := #[{ on := 7, ground := Ground.data }], guard := none }, { dst := some 51, op := Op.extract (Operand.tmp 42) 0, type := 51, pos := "ref.go:29", after := #[{ on := 8, ground := Ground.data }], guard := none }, { dst := some 52, op := Op.extract (Operand.tmp 42) 1, type := 25, pos := "ref.go:29", after := #[{ on := 8, ground := Ground.data }, { on := 11, ground := Ground.gcOnly Departure.lateStores }], guard := none }, { dst := none, op := Op.store 51 (Operand.tmp 6) (Operand.tmp 51), type := 0, pos := "ref.go:29", after := #[{ on := 9, ground := Ground.data }, { on := 7, ground := Ground.chain }, { on := 0, ground := Ground.phase }, { on := 1, ground := Ground.phase }, { on := 2, ground := Ground.phase }, { on := 3, ground := Ground.phase }, { on := 4, ground := Ground.phase }, { on := 5, ground := Ground.phase }, { on := 6, ground := Ground.phase }, { on := 7, ground := Ground.phase }, { on := 8, ground := Ground.phase }, { on := 9, ground := Ground.phase }, { on := 10, ground := Ground.textOnly Departure.lateStores }], guard := none }] true).wp Tryz.prog Q { tmps := (List.toArray ((.slice (some ⟨bL, oL, none⟩) len cap :: u1 :: u2 :: u3 :: .pointer (some ⟨p, 0, none⟩) :: .pointer (some ⟨gt, 0, none⟩) :: .pointer (some ⟨gx, 0, none⟩) :: .int .i64 (i : Int) :: u8 :: u9 :: u10 :: u11 :: u12 :: u13 :: u14 :: u15 :: u16 :: u17 :: u18 :: u19 :: u20 :: u21 :: u22 :: u23 :: u24 :: u25 :: u26 :: u27 :: u28 :: u29 :: u30 :: u31 :: u32 :: u33 :: u34 :: u35 :: u36 :: u37 :: u38 :: u39 :: u40 :: u41 :: u42 :: u43 :: u44 :: u45 :: u46 :: u47 :: u48 :: u49 :: u50 :: u51 :: u52 :: u53 :: u54 :: u55 :: u56 :: u57 :: u58 :: u59 :: u60 :: u61 :: u62 :: u63 :: u64 :: u65 :: u66 :: []) : List Value)), defers := [] } w := by
  have i1 : (i : Int) < (len : Int) := by omega
  have i0 : (0 : Int) ≤ (i : Int) := by omega
  have C1 : w.drew.cell? ⟨bL, oL + i * 2 + 1, none⟩ = some (.int .u64 (x : Int)) := (E1.d.bel.cell (p := ⟨bL, oL + i * 2 + 1, none⟩) hbL).trans hc0
  obtain ⟨c0, c1, c2, c3⟩ := J1.drew.bx.four
  replace P := hide P
  replace h := hide h
  replace E1 := hide E1
  replace K1 := hide K1
  replace J1 := hide J1
  refine wp_region_noPanic ?_
  refine wp_region_any (by kernel_rfl) ?_
  change wpAny _ _ _ _ _ _ _ (World.drew w)
  refine wpAny_take (i := 0) (oi := { dst := some 43, op := Op.move (Operand.tmp 4), type := 44, pos := "ref.go:29", after := #[], guard := none }) (v := ?_) rfl (by kernel_rfl) (by kernel_rfl) (by kernel_rfl) (fun _ _ _ h => h) (Or.inl ⟨by rfl, ?_⟩) ?_
  rotate_left
  · intro w'
    go_simp
    try with_reducible rfl
  try simp only [Act.put, List.setIfInBounds_toArray, List.set_cons_zero, List.set_cons_succ]
  refine wpAny_take (i := 2) (oi := { dst := some 45, op := Op.move (Operand.tmp 0), type := 22, pos := "ref.go:29", after := #[], guard := none }) (v := ?_) rfl (by kernel_rfl) (by kernel_rfl) (by kernel_rfl) (fun _ _ _ h => h) (Or.inl ⟨by rfl, ?_⟩) ?_
  rotate_left
  · intro w'
    go_simp
    try with_reducible rfl
  try simp only [Act.put, List.setIfInBounds_toArray, List.set_cons_zero, List.set_cons_succ]
  refine wpAny_take (i := 3) (oi := { dst := some 46, op := Op.move (Operand.tmp 7), type := 3, pos := "ref.go:29", after := #[], guard := none }) (v := ?_) rfl (by kernel_rfl) (by kernel_rfl) (by kernel_rfl) (fun _ _ _ h => h) (Or.inl ⟨by rfl, ?_⟩) ?_
  rotate_left
  · intro w'
    go_simp
    try with_reducible rfl
  try simp only [Act.put, List.setIfInBounds_toArray, List.set_cons_zero, List.set_cons_succ]
  refine wpAny_take (i := 4) (oi := { dst := some 47, op := Op.indexAddr 22 (Operand.tmp 45) (Operand.tmp 46), type := 0, pos := "ref.go:29", after := #[{ on := 2, ground := Ground.data }, { on := 3, ground := Ground.data }], guard := none }) (v := ?_) rfl (by kernel_rfl) (by kernel_rfl) (by kernel_rfl) (fun _ _ _ h => h) (Or.inl ⟨by rfl, ?_⟩) ?_
  rotate_left
  · intro w'
    go_simp
    try with_reducible rfl
  try simp only [Act.put, List.setIfInBounds_toArray, List.set_cons_zero, List.set_cons_succ]
  refine wpAny_take (i := 5) (oi := { dst := some 48, op := Op.fieldAddr 33 (Operand.tmp 47) 1, type := 0, pos := "ref.go:29", after := #[{ on := 4, ground := Ground.data }], guard := none }) (v := ?_) rfl (by kernel_rfl) (by kernel_rfl) (by kernel_rfl) (fun _ _ _ h => h) (Or.inl ⟨by rfl, ?_⟩) ?_
  rotate_left
  · intro w'
    go_simp
    try with_reducible rfl
  try simp only [Act.put, List.setIfInBounds_toArray, List.set_cons_zero, List.set_cons_succ]
  refine wpAny_ready (rs := [1, 6]) (by kernel_rfl) (by simp) ?_
  refine (AllReady.cons (o := { dst := some 44, op := Op.load 51 (Operand.tmp 6), type := 51, pos := "ref.go:29", after := #[], guard := none }) rfl (fun K1 hK1 => ?_) (AllReady.cons (o := { dst := some 49, op := Op.load 31 (Operand.tmp 48), type := 31, pos := "ref.go:29", after := #[{ on := 5, ground := Ground.data }], guard := none }) rfl (fun K6 hK6 => ?_) AllReady.nil))
  · go_simp
    refine hK1 _ _ ?_
    clear hK1 K1
    try simp only [Act.put, List.setIfInBounds_toArray, List.set_cons_zero, List.set_cons_succ]
    refine wpAny_ready (rs := [6]) (by kernel_rfl) (by simp) ?_
    refine (AllReady.cons (o := { dst := some 49, op := Op.load 31 (Operand.tmp 48), type := 31, pos := "ref.go:29", after := #[{ on := 5, ground := Ground.data }], guard := none }) rfl (fun K6 hK6 => ?_) AllReady.nil)
    go_simp
    refine hK6 _ _ ?_
    clear hK6 K6
    try simp only [Act.put, List.setIfInBounds_toArray, List.set_cons_zero, List.set_cons_succ]
    refine wpAny_ready (rs := [7]) (by kernel_rfl) (by simp) ?_
    refine (AllReady.cons (o := { dst := some 50, op := Op.call { callee := Callee.value (Operand.func 20), args := #[Operand.tmp 43, Operand.tmp 44, Operand.tmp 49], argTypes := #[44, 51, 31] }, type := 55, pos := "ref.go:29", after := #[{ on := 0, ground := Ground.data }, { on := 1, ground := Ground.data }, { on := 6, ground := Ground.data }], guard := none }) rfl (fun K7 hK7 => ?_) AllReady.nil)
    go_simp
    refine (P.out w.drew E1.out.drew.rw).mono ?_
    rintro e w3 ⟨rfl, v3, M3, W3, hPM, D3⟩
    have E3 := hide (E1.out.drew.put D3 W3)
    have K3 := hide (K1.out.drew.did D3)
    have J3 := hide (J1.out.drew.did D3)
    clear W3 D3 P E1 K1 J1
    refine hK7 _ _ ?_
    clear hK7 K7
    try simp only [Act.put, List.setIfInBounds_toArray, List.set_cons_zero, List.set_cons_succ]
    refine wpAny_take (i := 8) (oi := { dst := some 42, op := Op.move (Operand.tmp 50), type := 55, pos := "ref.go:29", after := #[{ on := 7, ground := Ground.data }], guard := none }) (v := ?_) rfl (by kernel_rfl) (by kernel_rfl) (by kernel_rfl) (fun _ _ _ h => h) (Or.inl ⟨by rfl, ?_⟩) ?_
    rotate_left
    · intro w'
      go_simp
      try with_reducible rfl
    try simp only [Act.put, List.setIfInBounds_toArray, List.set_cons_zero, List.set_cons_succ]
    refine wpAny_take (i := 9) (oi := { dst := some 51, op := Op.extract (Operand.tmp 42) 0, type := 51, pos := "ref.go:29", after := #[{ on := 8, ground := Ground.data }], guard := none }) (v := ?_) rfl (by kernel_rfl) (by kernel_rfl) (by kernel_rfl) (fun _ _ _ h => h) (Or.inl ⟨by rfl, ?_⟩) ?_
    rotate_left
    · intro w'
      go_simp
      try with_reducible rfl
    try simp only [Act.put, List.setIfInBounds_toArray, List.set_cons_zero, List.set_cons_succ]
    refine wpAny_take (i := 10) (oi := { dst := some 52, op := Op.extract (Operand.tmp 42) 1, type := 25, pos := "ref.go:29", after := #[{ on := 8, ground := Ground.data }, { on := 11, ground := Ground.gcOnly Departure.lateStores }], guard := none }) (v := ?_) rfl (by kernel_rfl) (by kernel_rfl) (by kernel_rfl) (fun _ _ _ h => h) (Or.inl ⟨by rfl, ?_⟩) ?_
    rotate_left
    · intro w'
      go_simp
      try with_reducible rfl
    try simp only [Act.put, List.setIfInBounds_toArray, List.set_cons_zero, List.set_cons_succ]
    refine wpAny_ready (rs := [11]) (by kernel_rfl) (by simp) ?_
    refine (AllReady.cons (o := { dst := none, op := Op.store 51 (Operand.tmp 6) (Operand.tmp 51), type := 0, pos := "ref.go:29", after := #[{ on := 9, ground := Ground.data }, { on := 7, ground := Ground.chain }, { on := 0, ground := Ground.phase }, { on := 1, ground := Ground.phase }, { on := 2, ground := Ground.phase }, { on := 3, ground := Ground.phase }, { on := 4, ground := Ground.phase }, { on := 5, ground := Ground.phase }, { on := 6, ground := Ground.phase }, { on := 7, ground := Ground.phase }, { on := 8, ground := Ground.phase }, { on := 9, ground := Ground.phase }, { on := 10, ground := Ground.textOnly Departure.lateStores }], guard := none }) rfl (fun K11 hK11 => ?_) AllReady.nil)
    refine step_store4 rfl (.tmp 6) (.tmp 51) rfl gx _ _ _ _ rfl rfl 51 _ _ _ _ J3.out.bx ?_
    have bN := but_setRow w3 gx #[.int .i64 y0, .int .u64 y1, .int .i64 y2, .int .i64 y3]
    have E5 := E3.out.but bN hgx J3.out.nf
    have K5 := K3.out.but bN hgt
    have J5 : Kx (w3.setRow gx #[.int .i64 y0, .int .u64 y1, .int .i64 y2, .int .i64 y3]) p v3 gx 51 #[.int .i64 y0, .int .u64 y1, .int .i64 y2, .int .i64 y3] := ⟨J3.out.bx.setRow #[.int .i64 y0, .int .u64 y1, .int .i64 y2, .int .i64 y3], J3.out.nf⟩
    refine hK11 _ _ ?_
    try simp only [Act.put, List.setIfInBounds_toArray, List.set_cons_zero, List.set_cons_succ]
    refine wpAny_done (by kernel_rfl) ?_ _
    refine NoPanic.normal ?_
    exact h.out _ v3 M3 E5 hPM K5 J5
  · go_simp
    refine hK6 _ _ ?_
    clear hK6 K6
    try simp only [Act.put, List.setIfInBounds_toArray, List.set_cons_zero, List.set_cons_succ]
    refine wpAny_ready (rs := [1]) (by kernel_rfl) (by simp) ?_
    refine (AllReady.cons (o := { dst := some 44, op := Op.load 51 (Operand.tmp 6), type := 51, pos := "ref.go:29", after := #[], guard := none }) rfl (fun K1 hK1 => ?_) AllReady.nil)
    go_simp
    refine hK1 _ _ ?_
    clear hK1 K1
    try simp only [Act.put, List.setIfInBounds_toArray, List.set_cons_zero, List.set_cons_succ]
    refine wpAny_ready (rs := [7]) (by kernel_rfl) (by simp) ?_
    refine (AllReady.cons (o := { dst := some 50, op := Op.call { callee := Callee.value (Operand.func 20), args := #[Operand.tmp 43, Operand.tmp 44, Operand.tmp 49], argTypes := #[44, 51, 31] }, type := 55, pos := "ref.go:29", after := #[{ on := 0, ground := Ground.data }, { on := 1, ground := Ground.data }, { on := 6, ground := Ground.data }], guard := none }) rfl (fun K7 hK7 => ?_) AllReady.nil)
    go_simp
    refine (P.out w.drew E1.out.drew.rw).mono ?_
    rintro e w3 ⟨rfl, v3, M3, W3, hPM, D3⟩
    have E3 := hide (E1.out.drew.put D3 W3)
    have K3 := hide (K1.out.drew.did D3)
    have J3 := hide (J1.out.drew.did D3)
    clear W3 D3 P E1 K1 J1
    refine hK7 _ _ ?_
    clear hK7 K7
    try simp only [Act.put, List.setIfInBounds_toArray, List.set_cons_zero, List.set_cons_succ]
    refine wpAny_take (i := 8) (oi := { dst := some 42, op := Op.move (Operand.tmp 50), type := 55, pos := "ref.go:29", after := #[{ on := 7, ground := Ground.data }], guard := none }) (v := ?_) rfl (by kernel_rfl) (by kernel_rfl) (by kernel_rfl) (fun _ _ _ h => h) (Or.inl ⟨by rfl, ?_⟩) ?_
    rotate_left
    · intro w'
      go_simp
      try with_reducible rfl
    try simp only [Act.put, List.setIfInBounds_toArray, List.set_cons_zero, List.set_cons_succ]
    refine wpAny_take (i := 9) (oi := { dst := some 51, op := Op.extract (Operand.tmp 42) 0, type := 51, pos := "ref.go:29", after := #[{ on := 8, ground := Ground.data }], guard := none }) (v := ?_) rfl (by kernel_rfl) (by kernel_rfl) (by kernel_rfl) (fun _ _ _ h => h) (Or.inl ⟨by rfl, ?_⟩) ?_
    rotate_left
    · intro w'
      go_simp
      try with_reducible rfl
    try simp only [Act.put, List.setIfInBounds_toArray, List.set_cons_zero, List.set_cons_succ]
    refine wpAny_take (i := 10) (oi := { dst := some 52, op := Op.extract (Operand.tmp 42) 1, type := 25, pos := "ref.go:29", after := #[{ on := 8, ground := Ground.data }, { on := 11, ground := Ground.gcOnly Departure.lateStores }], guard := none }) (v := ?_) rfl (by kernel_rfl) (by kernel_rfl) (by kernel_rfl) (fun _ _ _ h => h) (Or.inl ⟨by rfl, ?_⟩) ?_
    rotate_left
    · intro w'
      go_simp
      try with_reducible rfl
    try simp only [Act.put, List.setIfInBounds_toArray, List.set_cons_zero, List.set_cons_succ]
    refine wpAny_ready (rs := [11]) (by kernel_rfl) (by simp) ?_
    refine (AllReady.cons (o := { dst := none, op := Op.store 51 (Operand.tmp 6) (Operand.tmp 51), type := 0, pos := "ref.go:29", after := #[{ on := 9, ground := Ground.data }, { on := 7, ground := Ground.chain }, { on := 0, ground := Ground.phase }, { on := 1, ground := Ground.phase }, { on := 2, ground := Ground.phase }, { on := 3, ground := Ground.phase }, { on := 4, ground := Ground.phase }, { on := 5, ground := Ground.phase }, { on := 6, ground := Ground.phase }, { on := 7, ground := Ground.phase }, { on := 8, ground := Ground.phase }, { on := 9, ground := Ground.phase }, { on := 10, ground := Ground.textOnly Departure.lateStores }], guard := none }) rfl (fun K11 hK11 => ?_) AllReady.nil)
    refine step_store4 rfl (.tmp 6) (.tmp 51) rfl gx _ _ _ _ rfl rfl 51 _ _ _ _ J3.out.bx ?_
    have bN := but_setRow w3 gx #[.int .i64 y0, .int .u64 y1, .int .i64 y2, .int .i64 y3]
    have E5 := E3.out.but bN hgx J3.out.nf
    have K5 := K3.out.but bN hgt
    have J5 : Kx (w3.setRow gx #[.int .i64 y0, .int .u64 y1, .int .i64 y2, .int .i64 y3]) p v3 gx 51 #[.int .i64 y0, .int .u64 y1, .int .i64 y2, .int .i64 y3] := ⟨J3.out.bx.setRow #[.int .i64 y0, .int .u64 y1, .int .i64 y2, .int .i64 y3], J3.out.nf⟩
    refine hK11 _ _ ?_
    try simp only [Act.put, List.setIfInBounds_toArray, List.set_cons_zero, List.set_cons_succ]
    refine wpAny_done (by kernel_rfl) ?_ _
    refine NoPanic.normal ?_
    exact h.out _ v3 M3 E5 hPM K5 J5
end Go.Proofs.YtmjjedbdedemcaaGreatDoor
