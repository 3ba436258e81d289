/-
  A builder: Add.
-/
import Derived.Test.YtmjjedbdedemcaaGreatDoorTE
namespace Go.Proofs.YtmjjedbdedemcaaGreatDoor
open Go.RowKit
set_option linter.unusedVariables false
set_option linter.unusedSimpArgs false

section
variable {w : World} {ops : Array Oper} {rest : List Oper} {o : Oper} {a : Act} {Q : Exit → Act → World → Prop} {K : Act → World → Prop} {E : Prop}
/-- States are stored, as one step of a region that draws. -/
theorem step_storeZ (hgd : o.guard = none) (x y : Operand) (ho : o.op = .store 63 x y)
    (g : Nat) (a0 a1 a2 a3 a4 a5 a6 : Int) (hx : a.eval x = .pointer (some ⟨g, 0, none⟩)) (hy : a.eval y = .agg #[.int .i64 a0, .int .i64 a1, .int .i64 a2, .int .i64 a3, .int .u64 a4, .int .i64 a5, .int .i64 a6])
    (t : TypeId) (b0 b1 b2 b3 b4 b5 b6 : Value) (hg : Bx w g t #[b0, b1, b2, b3, b4, b5, b6])
    (h : K (a.put o.dst undef) (w.setRow g #[.int .i64 a0, .int .i64 a1, .int .i64 a2, .int .i64 a3, .int .u64 a4, .int .i64 a5, .int .i64 a6])) :
    if Region.wanted o (yielded ops a.tmps) = true then Oper.wp Tryz.prog o a w K Q else E := by
  have hw : Region.wanted o (yielded ops a.tmps) = true := by simp [Region.wanted, hgd]
  rw [if_pos hw]
  exact wp_store_row 63 x y ho g _ hx hy t _ hg (by rw [sizeSts]; rfl) rfl (by simp [Value.oneCell']) h
end
theorem Wr.but {w w' : World} {base p A n g : Nat} {v : Value} (h : Wr w base p v A n) (hb : But (fun i => i = g) w w') (hn : ¬ fp p v g) : Wr w' base p v A n := by
  obtain ⟨m, O, H⟩ := h
  exact ⟨m, O.kept hb (fun i hi => by rw [hi]; exact hn), H⟩
theorem Bx.eight {w : World} {g : Nat} {t : TypeId} {b0 b1 b2 b3 b4 b5 b6 b7 : Value} (h : Bx w g t #[b0, b1, b2, b3, b4, b5, b6, b7]) : w.cell? ⟨g, 0, none⟩ = some b0 ∧ w.cell? ⟨g, 1, none⟩ = some b1 ∧ w.cell? ⟨g, 2, none⟩ = some b2 ∧ w.cell? ⟨g, 3, none⟩ = some b3 ∧ w.cell? ⟨g, 4, none⟩ = some b4 ∧ w.cell? ⟨g, 5, none⟩ = some b5 ∧ w.cell? ⟨g, 6, none⟩ = some b6 ∧ w.cell? ⟨g, 7, none⟩ = some b7 :=
  ⟨h.cell 0, h.cell 1, h.cell 2, h.cell 3, h.cell 4, h.cell 5, h.cell 6, h.cell 7⟩
theorem Bx.seven {w : World} {g : Nat} {t : TypeId} {b0 b1 b2 b3 b4 b5 b6 : Value} (h : Bx w g t #[b0, b1, b2, b3, b4, b5, b6]) : w.cell? ⟨g, 0, none⟩ = some b0 ∧ w.cell? ⟨g, 1, none⟩ = some b1 ∧ w.cell? ⟨g, 2, none⟩ = some b2 ∧ w.cell? ⟨g, 3, none⟩ = some b3 ∧ w.cell? ⟨g, 4, none⟩ = some b4 ∧ w.cell? ⟨g, 5, none⟩ = some b5 ∧ w.cell? ⟨g, 6, none⟩ = some b6 :=
  ⟨h.cell 0, h.cell 1, h.cell 2, h.cell 3, h.cell 4, h.cell 5, h.cell 6⟩
theorem Bx.two {w : World} {g : Nat} {t : TypeId} {b0 b1 : Value} (h : Bx w g t #[b0, b1]) : w.cell? ⟨g, 0, none⟩ = some b0 ∧ w.cell? ⟨g, 1, none⟩ = some b1 := ⟨h.cell 0, h.cell 1⟩

set_option maxHeartbeats 4000000 in
set_option maxRecDepth 100000 in
theorem add_core {w : World} {base q p A k A' k' : Nat} {v : Value} {n L D U a b : Nat} (h : Bd w base q p v ⟨n, L, D, U, a, b⟩ A k) (hT : Tabs w) (hb0 : 2 < base) {t : Int} {x : Nat} (hn : n < 120) {y0 y1 y2 y3 y4 y5 y6 : Int}
    (P : ∀ wx, Wr wx base p v A k → Tabs wx → Calls Tryz.prog 28 #[.agg #[.int .i64 (n : Int), .int .i64 (L : Int), .int .i64 (D : Int), .int .i64 (n : Int), .int .u64 (U : Int), .int .i64 (a : Int), .int .i64 (b : Int)], .pointer (some ⟨p, 0, none⟩), .agg #[.int .i64 t, .int .u64 (x : Int)]] wx fun e w' => e = .returned (.tuple #[.agg #[.int .i64 y0, .int .i64 y1, .int .i64 y2, .int .i64 y3, .int .u64 y4, .int .i64 y5, .int .i64 y6], .int .i64 0]) ∧ ∃ v', Wr w' base p v' A' k' ∧ Did wx w' base p v v') :
    Calls Tryz.prog 10 #[.pointer (some ⟨q, 0, none⟩), .agg #[.int .i64 t, .int .u64 (x : Int)]] w fun e w' => e = .returned (.int .i64 0) ∧ ∃ v', Wr w' base p v' A' k' ∧ ¬ fp p v' q ∧ Bx w' q 68 #[.int .i64 y0, .int .i64 y1, .int .i64 y2, .int .i64 y3, .int .u64 y4, .int .i64 y5, .int .i64 y6, .pointer (some ⟨p, 0, none⟩)] ∧ DidB w w' base q p v v' := by
  have i1 : (n : Int) < 120 := by omega
  have E0 := WC.start h.wr hT hb0
  have hge := hide h.ge
  have hnf := hide h.nf
  have K0 : Kx w p v q 68 #[.int .i64 (n : Int), .int .i64 (L : Int), .int .i64 (D : Int), .int .i64 (n : Int), .int .u64 (U : Int), .int .i64 (a : Int), .int .i64 (b : Int), .pointer (some ⟨p, 0, none⟩)] := ⟨h.bx, h.nf⟩
  obtain ⟨g, hg⟩ : ∃ g, w.heap.size = g := ⟨_, rfl⟩
  have S1 := hide (Kx.new_at h.wr (g := g) hg.symm 33 #[.int .i64 t, .int .u64 (x : Int)])
  have E1 := hide (E0.alloc (.cells #[.int .i64 t, .int .u64 (x : Int)] 33))
  have K1 := hide (K0.alloc (.cells #[.int .i64 t, .int .u64 (x : Int)] 33))
  have B1 : Hid (Bd (w.alloc (.cells #[.int .i64 t, .int .u64 (x : Int)] 33)) base q p v ⟨n, L, D, U, a, b⟩ A k) := h.below ((Below.refl _ _).alloc (Nat.le_refl _) _)
  have hzz := zeroSts
  replace P := hide P
  replace hb0 := hide hb0
  clear E0 K0 h hT
  go_enter Tryz.func10, Tryz.ntmps10
  go_wp2_with fail
  refine (isMade_any B1.out).mono ?_
  rintro e wx ⟨rfl, rfl⟩
  go_wp2_with fail
  refine (len_any B1.out).mono ?_
  rintro e wx ⟨rfl, rfl⟩
  clear B1
  have hgl : Hid (g < (w.alloc (.cells #[.int .i64 t, .int .u64 (x : Int)] 33)).heap.size) := S1.out.bx.lt
  simp only [hg]
  generalize w.alloc (.cells #[.int .i64 t, .int .u64 (x : Int)] 33) = W1 at *
  go_upto_region 5 with fail
  refine wp_region_noPanic ?_
  refine wp_region_held_drew (S := (fun w' => (w'.cell? ⟨q, 0, none⟩ = some (.int .i64 (n : Int)) ∧ w'.cell? ⟨q, 1, none⟩ = some (.int .i64 (L : Int)) ∧ w'.cell? ⟨q, 2, none⟩ = some (.int .i64 (D : Int)) ∧ w'.cell? ⟨q, 3, none⟩ = some (.int .i64 (n : Int)) ∧ w'.cell? ⟨q, 4, none⟩ = some (.int .u64 (U : Int)) ∧ w'.cell? ⟨q, 5, none⟩ = some (.int .i64 (a : Int)) ∧ w'.cell? ⟨q, 6, none⟩ = some (.int .i64 (b : Int)) ∧ w'.cell? ⟨q, 7, none⟩ = some (.pointer (some ⟨p, 0, none⟩))) ∧ w'.cell? ⟨g, 0, none⟩ = some (.int .i64 t) ∧ w'.cell? ⟨g, 1, none⟩ = some (.int .u64 (x : Int)))) (by kernel_rfl) ⟨K1.out.bx.eight, S1.out.bx.two⟩ (fun hH0 => ?_)
  refine wpAnyH_take (i := 0) (oi := { dst := some 14, op := Op.move (Operand.tmp 0), type := 29, pos := "chunk.go:45", after := #[], guard := none }) (v := ?_) rfl (by kernel_rfl) (by kernel_rfl) (by kernel_rfl) (fun _ _ _ h => h) (Or.inl ⟨by rfl, ?_⟩) hH0 ?_
  rotate_left
  · intro w' hw'
    obtain ⟨⟨c0, c1, c2, c3, c4, c5, c6, c7⟩, s0, s1⟩ := hw'
    go_simp
    try with_reducible rfl
  try simp only [Act.put, List.setIfInBounds_toArray, List.set_cons_zero, List.set_cons_succ]
  refine wpAnyH_take (i := 1) (oi := { dst := some 15, op := Op.nilCheck (Operand.tmp 14), type := 0, pos := "chunk.go:45", after := #[{ on := 0, ground := Ground.data }], guard := none }) (v := ?_) rfl (by kernel_rfl) (by kernel_rfl) (by kernel_rfl) (fun _ _ _ h => h) (Or.inl ⟨by rfl, ?_⟩) hH0 ?_
  rotate_left
  · intro w' hw'
    obtain ⟨⟨c0, c1, c2, c3, c4, c5, c6, c7⟩, s0, s1⟩ := hw'
    go_simp
    try with_reducible rfl
  try simp only [Act.put, List.setIfInBounds_toArray, List.set_cons_zero, List.set_cons_succ]
  refine wpAnyH_take (i := 2) (oi := { dst := some 16, op := Op.fieldAddr 68 (Operand.tmp 15) 0, type := 0, pos := "chunk.go:45", after := #[{ on := 1, ground := Ground.data }], guard := none }) (v := ?_) rfl (by kernel_rfl) (by kernel_rfl) (by kernel_rfl) (fun _ _ _ h => h) (Or.inl ⟨by rfl, ?_⟩) hH0 ?_
  rotate_left
  · intro w' hw'
    obtain ⟨⟨c0, c1, c2, c3, c4, c5, c6, c7⟩, s0, s1⟩ := hw'
    go_simp
    try with_reducible rfl
  try simp only [Act.put, List.setIfInBounds_toArray, List.set_cons_zero, List.set_cons_succ]
  refine wpAnyH_take (i := 3) (oi := { dst := some 17, op := Op.load 63 (Operand.tmp 16), type := 63, pos := "chunk.go:45", after := #[{ on := 2, ground := Ground.data }], guard := none }) (v := ?_) rfl (by kernel_rfl) (by kernel_rfl) (by kernel_rfl) (fun _ _ _ h => h) (Or.inl ⟨by rfl, ?_⟩) hH0 ?_
  rotate_left
  · intro w' hw'
    obtain ⟨⟨c0, c1, c2, c3, c4, c5, c6, c7⟩, s0, s1⟩ := hw'
    go_simp
    try with_reducible rfl
  try simp only [Act.put, List.setIfInBounds_toArray, List.set_cons_zero, List.set_cons_succ]
  refine wpAnyH_take (i := 4) (oi := { dst := some 18, op := Op.move (Operand.tmp 0), type := 29, pos := "chunk.go:45", after := #[], guard := none }) (v := ?_) rfl (by kernel_rfl) (by kernel_rfl) (by kernel_rfl) (fun _ _ _ h => h) (Or.inl ⟨by rfl, ?_⟩) hH0 ?_
  rotate_left
  · intro w' hw'
    obtain ⟨⟨c0, c1, c2, c3, c4, c5, c6, c7⟩, s0, s1⟩ := hw'
    go_simp
    try with_reducible rfl
  try simp only [Act.put, List.setIfInBounds_toArray, List.set_cons_zero, List.set_cons_succ]
  refine wpAnyH_take (i := 5) (oi := { dst := some 19, op := Op.nilCheck (Operand.tmp 18), type := 0, pos := "chunk.go:45", after := #[{ on := 4, ground := Ground.data }], guard := none }) (v := ?_) rfl (by kernel_rfl) (by kernel_rfl) (by kernel_rfl) (fun _ _ _ h => h) (Or.inl ⟨by rfl, ?_⟩) hH0 ?_
  rotate_left
  · intro w' hw'
    obtain ⟨⟨c0, c1, c2, c3, c4, c5, c6, c7⟩, s0, s1⟩ := hw'
    go_simp
    try with_reducible rfl
  try simp only [Act.put, List.setIfInBounds_toArray, List.set_cons_zero, List.set_cons_succ]
  refine wpAnyH_take (i := 6) (oi := { dst := some 20, op := Op.fieldAddr 68 (Operand.tmp 19) 1, type := 0, pos := "chunk.go:45", after := #[{ on := 5, ground := Ground.data }], guard := none }) (v := ?_) rfl (by kernel_rfl) (by kernel_rfl) (by kernel_rfl) (fun _ _ _ h => h) (Or.inl ⟨by rfl, ?_⟩) hH0 ?_
  rotate_left
  · intro w' hw'
    obtain ⟨⟨c0, c1, c2, c3, c4, c5, c6, c7⟩, s0, s1⟩ := hw'
    go_simp
    try with_reducible rfl
  try simp only [Act.put, List.setIfInBounds_toArray, List.set_cons_zero, List.set_cons_succ]
  refine wpAnyH_take (i := 7) (oi := { dst := some 21, op := Op.load 65 (Operand.tmp 20), type := 65, pos := "chunk.go:45", after := #[{ on := 6, ground := Ground.data }], guard := none }) (v := ?_) rfl (by kernel_rfl) (by kernel_rfl) (by kernel_rfl) (fun _ _ _ h => h) (Or.inl ⟨by rfl, ?_⟩) hH0 ?_
  rotate_left
  · intro w' hw'
    obtain ⟨⟨c0, c1, c2, c3, c4, c5, c6, c7⟩, s0, s1⟩ := hw'
    go_simp
    try with_reducible rfl
  try simp only [Act.put, List.setIfInBounds_toArray, List.set_cons_zero, List.set_cons_succ]
  refine wpAnyH_take (i := 8) (oi := { dst := some 22, op := Op.load 33 (Operand.tmp 3), type := 33, pos := "chunk.go:45", after := #[], guard := none }) (v := ?_) rfl (by kernel_rfl) (by kernel_rfl) (by kernel_rfl) (fun _ _ _ h => h) (Or.inl ⟨by rfl, ?_⟩) hH0 ?_
  rotate_left
  · intro w' hw'
    obtain ⟨⟨c0, c1, c2, c3, c4, c5, c6, c7⟩, s0, s1⟩ := hw'
    go_simp
    try with_reducible rfl
  try simp only [Act.put, List.setIfInBounds_toArray, List.set_cons_zero, List.set_cons_succ]
  refine wpAnyH_ready (rs := [9, 13]) (by kernel_rfl) (by simp) ?_
  refine AllReadyH.cons (o := { dst := some 23, op := Op.call { callee := Callee.value (Operand.func 28), args := #[Operand.tmp 17, Operand.tmp 21, Operand.tmp 22], argTypes := #[63, 65, 33] }, type := 69, pos := "chunk.go:45", after := #[{ on := 3, ground := Ground.data }, { on := 7, ground := Ground.data }, { on := 8, ground := Ground.data }], guard := none }) rfl (fun K hK => ?_) (AllReadyH.cons (o := { dst := some 5, op := Op.alloc 63, type := 0, pos := "chunk.go:45", after := #[], guard := none }) rfl (fun K hK => ?_) AllReadyH.nil)
  · go_simp
    refine (P.out W1.drew E1.out.drew.wr E1.out.drew.t).mono ?_
    rintro e w3 ⟨rfl, v3, W3, D3⟩
    have E3 := hide (E1.out.drew.put D3 W3)
    have K3 := hide (K1.out.drew.did D3)
    have S3 := hide (S1.out.drew.did D3)
    clear W3 D3 P E1 K1 S1
    refine hK.out _ _ ⟨K3.out.bx.eight, S3.out.bx.two⟩ (fun hH1 => ?_)
    clear hK
    try simp only [Act.put, List.setIfInBounds_toArray, List.set_cons_zero, List.set_cons_succ]
    refine wpAnyH_take (i := 10) (oi := { dst := some 13, op := Op.move (Operand.tmp 23), type := 69, pos := "chunk.go:45", after := #[{ on := 9, ground := Ground.data }], guard := none }) (v := ?_) rfl (by kernel_rfl) (by kernel_rfl) (by kernel_rfl) (fun _ _ _ h => h) (Or.inl ⟨by rfl, ?_⟩) hH1 ?_
    rotate_left
    · intro w' hw'
      obtain ⟨⟨c0, c1, c2, c3, c4, c5, c6, c7⟩, s0, s1⟩ := hw'
      go_simp
      try with_reducible rfl
    try simp only [Act.put, List.setIfInBounds_toArray, List.set_cons_zero, List.set_cons_succ]
    refine wpAnyH_take (i := 11) (oi := { dst := some 24, op := Op.extract (Operand.tmp 13) 0, type := 63, pos := "chunk.go:45", after := #[{ on := 10, ground := Ground.data }], guard := none }) (v := ?_) rfl (by kernel_rfl) (by kernel_rfl) (by kernel_rfl) (fun _ _ _ h => h) (Or.inl ⟨by rfl, ?_⟩) hH1 ?_
    rotate_left
    · intro w' hw'
      obtain ⟨⟨c0, c1, c2, c3, c4, c5, c6, c7⟩, s0, s1⟩ := hw'
      go_simp
      try with_reducible rfl
    try simp only [Act.put, List.setIfInBounds_toArray, List.set_cons_zero, List.set_cons_succ]
    refine wpAnyH_take (i := 12) (oi := { dst := some 25, op := Op.extract (Operand.tmp 13) 1, type := 25, pos := "chunk.go:45", after := #[{ on := 10, ground := Ground.data }, { on := 14, ground := Ground.gcOnly Departure.lateStores }], guard := none }) (v := ?_) rfl (by kernel_rfl) (by kernel_rfl) (by kernel_rfl) (fun _ _ _ h => h) (Or.inl ⟨by rfl, ?_⟩) hH1 ?_
    rotate_left
    · intro w' hw'
      obtain ⟨⟨c0, c1, c2, c3, c4, c5, c6, c7⟩, s0, s1⟩ := hw'
      go_simp
      try with_reducible rfl
    try simp only [Act.put, List.setIfInBounds_toArray, List.set_cons_zero, List.set_cons_succ]
    refine wpAnyH_ready (rs := [13]) (by kernel_rfl) (by simp) ?_
    refine AllReadyH.cons (o := { dst := some 5, op := Op.alloc 63, type := 0, pos := "chunk.go:45", after := #[], guard := none }) rfl (fun K hK => ?_) AllReadyH.nil
    go_simp
    refine hK.out _ _ ⟨(K3.out.bx.alloc (.cells #[.int .i64 0, .int .i64 0, .int .i64 0, .int .i64 0, .int .u64 0, .int .i64 0, .int .i64 0] 63)).eight, (S3.out.bx.alloc (.cells #[.int .i64 0, .int .i64 0, .int .i64 0, .int .i64 0, .int .u64 0, .int .i64 0, .int .i64 0] 63)).two⟩ (fun hH2 => ?_)
    clear hK
    try simp only [Act.put, List.setIfInBounds_toArray, List.set_cons_zero, List.set_cons_succ]
    have E4 := hide (E3.out.alloc (.cells #[.int .i64 0, .int .i64 0, .int .i64 0, .int .i64 0, .int .u64 0, .int .i64 0, .int .i64 0] 63))
    have K4 := hide (K3.out.alloc (.cells #[.int .i64 0, .int .i64 0, .int .i64 0, .int .i64 0, .int .u64 0, .int .i64 0, .int .i64 0] 63))
    have S4 := hide (S3.out.alloc (.cells #[.int .i64 0, .int .i64 0, .int .i64 0, .int .i64 0, .int .u64 0, .int .i64 0, .int .i64 0] 63))
    have X4 := hide (Kx.new E3.out.wr 63 #[.int .i64 0, .int .i64 0, .int .i64 0, .int .i64 0, .int .u64 0, .int .i64 0, .int .i64 0])
    obtain ⟨gN, hgN⟩ : ∃ gN, w3.heap.size = gN := ⟨_, rfl⟩
    have hgq : Hid (q ≠ gN ∧ g ≠ gN ∧ w.heap.size ≤ gN) := by have := K3.out.bx.lt; have := S3.out.bx.lt; have := E3.out.d.bel.size; exact ⟨by omega, by omega, by omega⟩
    simp only [hgN] at X4 ⊢
    generalize w3.alloc (.cells #[.int .i64 0, .int .i64 0, .int .i64 0, .int .i64 0, .int .u64 0, .int .i64 0, .int .i64 0] 63) = w4 at *
    clear E3 K3 S3 hgN
    refine wpAnyH_ready (rs := [14]) (by kernel_rfl) (by simp) ?_
    refine AllReadyH.cons (o := { dst := none, op := Op.store 63 (Operand.tmp 5) (Operand.tmp 24), type := 0, pos := "chunk.go:45", after := #[{ on := 13, ground := Ground.data }, { on := 11, ground := Ground.data }, { on := 9, ground := Ground.chain }, { on := 0, ground := Ground.phase }, { on := 1, ground := Ground.phase }, { on := 2, ground := Ground.phase }, { on := 3, ground := Ground.phase }, { on := 4, ground := Ground.phase }, { on := 5, ground := Ground.phase }, { on := 6, ground := Ground.phase }, { on := 7, ground := Ground.phase }, { on := 8, ground := Ground.phase }, { on := 9, ground := Ground.phase }, { on := 10, ground := Ground.phase }, { on := 11, ground := Ground.phase }, { on := 12, ground := Ground.textOnly Departure.lateStores }, { on := 13, ground := Ground.phase }], guard := none }) rfl (fun K hK => ?_) AllReadyH.nil
    refine step_storeZ rfl (.tmp 5) (.tmp 24) rfl gN _ _ _ _ _ _ _ rfl rfl 63 _ _ _ _ _ _ _ X4.out.bx ?_
    have bN := hide (but_setRow w4 gN #[.int .i64 y0, .int .i64 y1, .int .i64 y2, .int .i64 y3, .int .u64 y4, .int .i64 y5, .int .i64 y6])
    have E5 := hide (E4.out.but bN.out hgq.out.2.2 X4.out.nf)
    have K5 := hide (K4.out.but bN.out hgq.out.1)
    have S5 := hide (S4.out.but bN.out hgq.out.2.1)
    have X5 := hide (X4.out.bx.setRow #[.int .i64 y0, .int .i64 y1, .int .i64 y2, .int .i64 y3, .int .u64 y4, .int .i64 y5, .int .i64 y6])
    refine hK.out _ _ ⟨K5.out.bx.eight, S5.out.bx.two⟩ (fun hH3 => ?_)
    clear hK
    try simp only [Act.put, List.setIfInBounds_toArray, List.set_cons_zero, List.set_cons_succ]
    refine wpAnyH_take (i := 15) (oi := { dst := some 6, op := Op.assign (Operand.tmp 25), type := 25, pos := "chunk.go:45", after := #[{ on := 12, ground := Ground.data }, { on := 14, ground := Ground.chain }, { on := 0, ground := Ground.phase }, { on := 1, ground := Ground.phase }, { on := 2, ground := Ground.phase }, { on := 3, ground := Ground.phase }, { on := 4, ground := Ground.phase }, { on := 5, ground := Ground.phase }, { on := 6, ground := Ground.phase }, { on := 7, ground := Ground.phase }, { on := 8, ground := Ground.phase }, { on := 9, ground := Ground.phase }, { on := 10, ground := Ground.phase }, { on := 11, ground := Ground.phase }, { on := 12, ground := Ground.phase }, { on := 13, ground := Ground.phase }, { on := 14, ground := Ground.phase }], guard := none }) (v := ?_) rfl (by kernel_rfl) (by kernel_rfl) (by kernel_rfl) (fun _ _ _ h => h) (Or.inl ⟨by rfl, ?_⟩) hH3 ?_
    rotate_left
    · intro w' hw'
      obtain ⟨⟨c0, c1, c2, c3, c4, c5, c6, c7⟩, s0, s1⟩ := hw'
      go_simp
      try with_reducible rfl
    try simp only [Act.put, List.setIfInBounds_toArray, List.set_cons_zero, List.set_cons_succ]
    refine wpAnyH_done (by kernel_rfl) ?_ _
    refine NoPanic.normal ?_
    generalize w4.setRow gN #[.int .i64 y0, .int .i64 y1, .int .i64 y2, .int .i64 y3, .int .u64 y4, .int .i64 y5, .int .i64 y6] = w5 at *
    clear E4 K4 S4 X4 bN S5
    obtain ⟨x0, x1, x2, x3, x4, x5, x6⟩ := X5.out.seven
    have bq := hide (but_setRow w5 q #[.int .i64 y0, .int .i64 y1, .int .i64 y2, .int .i64 y3, .int .u64 y4, .int .i64 y5, .int .i64 y6, .pointer (some ⟨p, 0, none⟩)])
    have hbw := hide (below_setRow E5.out.d.bel hge.out #[.int .i64 y0, .int .i64 y1, .int .i64 y2, .int .i64 y3, .int .u64 y4, .int .i64 y5, .int .i64 y6, .pointer (some ⟨p, 0, none⟩)])
    have FB := hide (K5.out.bx.setRow #[.int .i64 y0, .int .i64 y1, .int .i64 y2, .int .i64 y3, .int .u64 y4, .int .i64 y5, .int .i64 y6, .pointer (some ⟨p, 0, none⟩)])
    go_wp2_with (refine wpList_storeB rfl (.tmp 32) (.tmp 30) rfl q _ _ _ _ _ _ _ rfl rfl 68 _ _ _ _ _ _ _ _ K5.out.bx ?_)
    go_ret
    exact ⟨rfl, v3, E5.out.wr.but bq.out K5.out.nf, K5.out.nf, FB.out, hbw.out, (E5.out.d.but.mono (fun i hi => .inr hi)).trans bq.out (fun i hi e => .inl e), fun i hi hf => by rcases hf with hf | hf; exact .inl hf; exact .inr (E5.out.d.own i hi hf)⟩
  · go_simp
    have Ea := hide ((E1.out.alloc (.cells #[.int .i64 0, .int .i64 0, .int .i64 0, .int .i64 0, .int .u64 0, .int .i64 0, .int .i64 0] 63)).drew)
    have Ka := hide ((K1.out.alloc (.cells #[.int .i64 0, .int .i64 0, .int .i64 0, .int .i64 0, .int .u64 0, .int .i64 0, .int .i64 0] 63)).drew)
    have Sa := hide ((S1.out.alloc (.cells #[.int .i64 0, .int .i64 0, .int .i64 0, .int .i64 0, .int .u64 0, .int .i64 0, .int .i64 0] 63)).drew)
    have Xa := hide ((Kx.new E1.out.wr 63 #[.int .i64 0, .int .i64 0, .int .i64 0, .int .i64 0, .int .u64 0, .int .i64 0, .int .i64 0]).drew)
    refine hK.out _ _ ⟨Ka.out.bx.eight, Sa.out.bx.two⟩ (fun hH1 => ?_)
    clear hK
    try simp only [Act.put, List.setIfInBounds_toArray, List.set_cons_zero, List.set_cons_succ]
    refine wpAnyH_ready (rs := [9]) (by kernel_rfl) (by simp) ?_
    refine AllReadyH.cons (o := { dst := some 23, op := Op.call { callee := Callee.value (Operand.func 28), args := #[Operand.tmp 17, Operand.tmp 21, Operand.tmp 22], argTypes := #[63, 65, 33] }, type := 69, pos := "chunk.go:45", after := #[{ on := 3, ground := Ground.data }, { on := 7, ground := Ground.data }, { on := 8, ground := Ground.data }], guard := none }) rfl (fun K hK => ?_) AllReadyH.nil
    go_simp
    refine (P.out _ Ea.out.wr Ea.out.t).mono ?_
    rintro e w4 ⟨rfl, v3, W3, D3⟩
    have E4 := hide (Ea.out.put D3 W3)
    have K4 := hide (Ka.out.did D3)
    have S4 := hide (Sa.out.did D3)
    have X4 := hide (Xa.out.did D3)
    obtain ⟨gN, hgN⟩ : ∃ gN, W1.heap.size = gN := ⟨_, rfl⟩
    have hgq : Hid (q ≠ gN ∧ g ≠ gN ∧ w.heap.size ≤ gN) := by have := K1.out.bx.lt; have := S1.out.bx.lt; have := E1.out.d.bel.size; exact ⟨by omega, by omega, by omega⟩
    simp only [hgN] at X4 ⊢
    clear W3 D3 P Ea Ka Sa Xa E1 K1 S1
    refine hK.out _ _ ⟨K4.out.bx.eight, S4.out.bx.two⟩ (fun hH2 => ?_)
    clear hK
    try simp only [Act.put, List.setIfInBounds_toArray, List.set_cons_zero, List.set_cons_succ]
    refine wpAnyH_take (i := 10) (oi := { dst := some 13, op := Op.move (Operand.tmp 23), type := 69, pos := "chunk.go:45", after := #[{ on := 9, ground := Ground.data }], guard := none }) (v := ?_) rfl (by kernel_rfl) (by kernel_rfl) (by kernel_rfl) (fun _ _ _ h => h) (Or.inl ⟨by rfl, ?_⟩) hH2 ?_
    rotate_left
    · intro w' hw'
      obtain ⟨⟨c0, c1, c2, c3, c4, c5, c6, c7⟩, s0, s1⟩ := hw'
      go_simp
      try with_reducible rfl
    try simp only [Act.put, List.setIfInBounds_toArray, List.set_cons_zero, List.set_cons_succ]
    refine wpAnyH_take (i := 11) (oi := { dst := some 24, op := Op.extract (Operand.tmp 13) 0, type := 63, pos := "chunk.go:45", after := #[{ on := 10, ground := Ground.data }], guard := none }) (v := ?_) rfl (by kernel_rfl) (by kernel_rfl) (by kernel_rfl) (fun _ _ _ h => h) (Or.inl ⟨by rfl, ?_⟩) hH2 ?_
    rotate_left
    · intro w' hw'
      obtain ⟨⟨c0, c1, c2, c3, c4, c5, c6, c7⟩, s0, s1⟩ := hw'
      go_simp
      try with_reducible rfl
    try simp only [Act.put, List.setIfInBounds_toArray, List.set_cons_zero, List.set_cons_succ]
    refine wpAnyH_take (i := 12) (oi := { dst := some 25, op := Op.extract (Operand.tmp 13) 1, type := 25, pos := "chunk.go:45", after := #[{ on := 10, ground := Ground.data }, { on := 14, ground := Ground.gcOnly Departure.lateStores }], guard := none }) (v := ?_) rfl (by kernel_rfl) (by kernel_rfl) (by kernel_rfl) (fun _ _ _ h => h) (Or.inl ⟨by rfl, ?_⟩) hH2 ?_
    rotate_left
    · intro w' hw'
      obtain ⟨⟨c0, c1, c2, c3, c4, c5, c6, c7⟩, s0, s1⟩ := hw'
      go_simp
      try with_reducible rfl
    try simp only [Act.put, List.setIfInBounds_toArray, List.set_cons_zero, List.set_cons_succ]
    refine wpAnyH_ready (rs := [14]) (by kernel_rfl) (by simp) ?_
    refine AllReadyH.cons (o := { dst := none, op := Op.store 63 (Operand.tmp 5) (Operand.tmp 24), type := 0, pos := "chunk.go:45", after := #[{ on := 13, ground := Ground.data }, { on := 11, ground := Ground.data }, { on := 9, ground := Ground.chain }, { on := 0, ground := Ground.phase }, { on := 1, ground := Ground.phase }, { on := 2, ground := Ground.phase }, { on := 3, ground := Ground.phase }, { on := 4, ground := Ground.phase }, { on := 5, ground := Ground.phase }, { on := 6, ground := Ground.phase }, { on := 7, ground := Ground.phase }, { on := 8, ground := Ground.phase }, { on := 9, ground := Ground.phase }, { on := 10, ground := Ground.phase }, { on := 11, ground := Ground.phase }, { on := 12, ground := Ground.textOnly Departure.lateStores }, { on := 13, ground := Ground.phase }], guard := none }) rfl (fun K hK => ?_) AllReadyH.nil
    refine step_storeZ rfl (.tmp 5) (.tmp 24) rfl gN _ _ _ _ _ _ _ rfl rfl 63 _ _ _ _ _ _ _ X4.out.bx ?_
    have bN := hide (but_setRow w4 gN #[.int .i64 y0, .int .i64 y1, .int .i64 y2, .int .i64 y3, .int .u64 y4, .int .i64 y5, .int .i64 y6])
    have E5 := hide (E4.out.but bN.out hgq.out.2.2 X4.out.nf)
    have K5 := hide (K4.out.but bN.out hgq.out.1)
    have S5 := hide (S4.out.but bN.out hgq.out.2.1)
    have X5 := hide (X4.out.bx.setRow #[.int .i64 y0, .int .i64 y1, .int .i64 y2, .int .i64 y3, .int .u64 y4, .int .i64 y5, .int .i64 y6])
    refine hK.out _ _ ⟨K5.out.bx.eight, S5.out.bx.two⟩ (fun hH3 => ?_)
    clear hK
    try simp only [Act.put, List.setIfInBounds_toArray, List.set_cons_zero, List.set_cons_succ]
    refine wpAnyH_take (i := 15) (oi := { dst := some 6, op := Op.assign (Operand.tmp 25), type := 25, pos := "chunk.go:45", after := #[{ on := 12, ground := Ground.data }, { on := 14, ground := Ground.chain }, { on := 0, ground := Ground.phase }, { on := 1, ground := Ground.phase }, { on := 2, ground := Ground.phase }, { on := 3, ground := Ground.phase }, { on := 4, ground := Ground.phase }, { on := 5, ground := Ground.phase }, { on := 6, ground := Ground.phase }, { on := 7, ground := Ground.phase }, { on := 8, ground := Ground.phase }, { on := 9, ground := Ground.phase }, { on := 10, ground := Ground.phase }, { on := 11, ground := Ground.phase }, { on := 12, ground := Ground.phase }, { on := 13, ground := Ground.phase }, { on := 14, ground := Ground.phase }], guard := none }) (v := ?_) rfl (by kernel_rfl) (by kernel_rfl) (by kernel_rfl) (fun _ _ _ h => h) (Or.inl ⟨by rfl, ?_⟩) hH3 ?_
    rotate_left
    · intro w' hw'
      obtain ⟨⟨c0, c1, c2, c3, c4, c5, c6, c7⟩, s0, s1⟩ := hw'
      go_simp
      try with_reducible rfl
    try simp only [Act.put, List.setIfInBounds_toArray, List.set_cons_zero, List.set_cons_succ]
    refine wpAnyH_done (by kernel_rfl) ?_ _
    refine NoPanic.normal ?_
    generalize w4.setRow gN #[.int .i64 y0, .int .i64 y1, .int .i64 y2, .int .i64 y3, .int .u64 y4, .int .i64 y5, .int .i64 y6] = w5 at *
    clear E4 K4 S4 X4 bN S5
    obtain ⟨x0, x1, x2, x3, x4, x5, x6⟩ := X5.out.seven
    have bq := hide (but_setRow w5 q #[.int .i64 y0, .int .i64 y1, .int .i64 y2, .int .i64 y3, .int .u64 y4, .int .i64 y5, .int .i64 y6, .pointer (some ⟨p, 0, none⟩)])
    have hbw := hide (below_setRow E5.out.d.bel hge.out #[.int .i64 y0, .int .i64 y1, .int .i64 y2, .int .i64 y3, .int .u64 y4, .int .i64 y5, .int .i64 y6, .pointer (some ⟨p, 0, none⟩)])
    have FB := hide (K5.out.bx.setRow #[.int .i64 y0, .int .i64 y1, .int .i64 y2, .int .i64 y3, .int .u64 y4, .int .i64 y5, .int .i64 y6, .pointer (some ⟨p, 0, none⟩)])
    go_wp2_with (refine wpList_storeB rfl (.tmp 32) (.tmp 30) rfl q _ _ _ _ _ _ _ rfl rfl 68 _ _ _ _ _ _ _ _ K5.out.bx ?_)
    go_ret
    exact ⟨rfl, v3, E5.out.wr.but bq.out K5.out.nf, K5.out.nf, FB.out, hbw.out, (E5.out.d.but.mono (fun i hi => .inr hi)).trans bq.out (fun i hi e => .inl e), fun i hi hf => by rcases hf with hf | hf; exact .inl hf; exact .inr (E5.out.d.own i hi hf)⟩
set_option maxHeartbeats 4000000 in
set_option maxRecDepth 100000 in
theorem add_coreNo {w : World} {base q p A k A' k' : Nat} {v : Value} {n L D U a b : Nat} (h : Bd w base q p v ⟨n, L, D, U, a, b⟩ A k) (hT : Tabs w) (hb0 : 2 < base) {t : Int} {x : Nat} (hn : n < 120) {y0 y1 y2 y3 y4 y5 y6 : Int}
    (P : ∀ wx, Wr wx base p v A k → Tabs wx → Calls Tryz.prog 28 #[.agg #[.int .i64 (n : Int), .int .i64 (L : Int), .int .i64 (D : Int), .int .i64 (n : Int), .int .u64 (U : Int), .int .i64 (a : Int), .int .i64 (b : Int)], .pointer (some ⟨p, 0, none⟩), .agg #[.int .i64 t, .int .u64 (x : Int)]] wx fun e w' => e = .returned (.tuple #[.agg #[.int .i64 y0, .int .i64 y1, .int .i64 y2, .int .i64 y3, .int .u64 y4, .int .i64 y5, .int .i64 y6], .int .i64 60]) ∧ ∃ v', Wr w' base p v' A' k' ∧ Did wx w' base p v v') :
    Calls Tryz.prog 10 #[.pointer (some ⟨q, 0, none⟩), .agg #[.int .i64 t, .int .u64 (x : Int)]] w fun e w' => e = .returned (.int .i64 60) ∧ ∃ v', Wr w' base p v' A' k' ∧ ¬ fp p v' q ∧ Bx w' q 68 #[.int .i64 (n : Int), .int .i64 (L : Int), .int .i64 (D : Int), .int .i64 (n : Int), .int .u64 (U : Int), .int .i64 (a : Int), .int .i64 (b : Int), .pointer (some ⟨p, 0, none⟩)] ∧ DidB w w' base q p v v' := by
  have i1 : (n : Int) < 120 := by omega
  have E0 := WC.start h.wr hT hb0
  have hge := hide h.ge
  have hnf := hide h.nf
  have K0 : Kx w p v q 68 #[.int .i64 (n : Int), .int .i64 (L : Int), .int .i64 (D : Int), .int .i64 (n : Int), .int .u64 (U : Int), .int .i64 (a : Int), .int .i64 (b : Int), .pointer (some ⟨p, 0, none⟩)] := ⟨h.bx, h.nf⟩
  obtain ⟨g, hg⟩ : ∃ g, w.heap.size = g := ⟨_, rfl⟩
  have S1 := hide (Kx.new_at h.wr (g := g) hg.symm 33 #[.int .i64 t, .int .u64 (x : Int)])
  have E1 := hide (E0.alloc (.cells #[.int .i64 t, .int .u64 (x : Int)] 33))
  have K1 := hide (K0.alloc (.cells #[.int .i64 t, .int .u64 (x : Int)] 33))
  have B1 : Hid (Bd (w.alloc (.cells #[.int .i64 t, .int .u64 (x : Int)] 33)) base q p v ⟨n, L, D, U, a, b⟩ A k) := h.below ((Below.refl _ _).alloc (Nat.le_refl _) _)
  have hzz := zeroSts
  replace P := hide P
  replace hb0 := hide hb0
  clear E0 K0 h hT
  go_enter Tryz.func10, Tryz.ntmps10
  go_wp2_with fail
  refine (isMade_any B1.out).mono ?_
  rintro e wx ⟨rfl, rfl⟩
  go_wp2_with fail
  refine (len_any B1.out).mono ?_
  rintro e wx ⟨rfl, rfl⟩
  clear B1
  have hgl : Hid (g < (w.alloc (.cells #[.int .i64 t, .int .u64 (x : Int)] 33)).heap.size) := S1.out.bx.lt
  simp only [hg]
  generalize w.alloc (.cells #[.int .i64 t, .int .u64 (x : Int)] 33) = W1 at *
  go_upto_region 5 with fail
  refine wp_region_noPanic ?_
  refine wp_region_held_drew (S := (fun w' => (w'.cell? ⟨q, 0, none⟩ = some (.int .i64 (n : Int)) ∧ w'.cell? ⟨q, 1, none⟩ = some (.int .i64 (L : Int)) ∧ w'.cell? ⟨q, 2, none⟩ = some (.int .i64 (D : Int)) ∧ w'.cell? ⟨q, 3, none⟩ = some (.int .i64 (n : Int)) ∧ w'.cell? ⟨q, 4, none⟩ = some (.int .u64 (U : Int)) ∧ w'.cell? ⟨q, 5, none⟩ = some (.int .i64 (a : Int)) ∧ w'.cell? ⟨q, 6, none⟩ = some (.int .i64 (b : Int)) ∧ w'.cell? ⟨q, 7, none⟩ = some (.pointer (some ⟨p, 0, none⟩))) ∧ w'.cell? ⟨g, 0, none⟩ = some (.int .i64 t) ∧ w'.cell? ⟨g, 1, none⟩ = some (.int .u64 (x : Int)))) (by kernel_rfl) ⟨K1.out.bx.eight, S1.out.bx.two⟩ (fun hH0 => ?_)
  refine wpAnyH_take (i := 0) (oi := { dst := some 14, op := Op.move (Operand.tmp 0), type := 29, pos := "chunk.go:45", after := #[], guard := none }) (v := ?_) rfl (by kernel_rfl) (by kernel_rfl) (by kernel_rfl) (fun _ _ _ h => h) (Or.inl ⟨by rfl, ?_⟩) hH0 ?_
  rotate_left
  · intro w' hw'
    obtain ⟨⟨c0, c1, c2, c3, c4, c5, c6, c7⟩, s0, s1⟩ := hw'
    go_simp
    try with_reducible rfl
  try simp only [Act.put, List.setIfInBounds_toArray, List.set_cons_zero, List.set_cons_succ]
  refine wpAnyH_take (i := 1) (oi := { dst := some 15, op := Op.nilCheck (Operand.tmp 14), type := 0, pos := "chunk.go:45", after := #[{ on := 0, ground := Ground.data }], guard := none }) (v := ?_) rfl (by kernel_rfl) (by kernel_rfl) (by kernel_rfl) (fun _ _ _ h => h) (Or.inl ⟨by rfl, ?_⟩) hH0 ?_
  rotate_left
  · intro w' hw'
    obtain ⟨⟨c0, c1, c2, c3, c4, c5, c6, c7⟩, s0, s1⟩ := hw'
    go_simp
    try with_reducible rfl
  try simp only [Act.put, List.setIfInBounds_toArray, List.set_cons_zero, List.set_cons_succ]
  refine wpAnyH_take (i := 2) (oi := { dst := some 16, op := Op.fieldAddr 68 (Operand.tmp 15) 0, type := 0, pos := "chunk.go:45", after := #[{ on := 1, ground := Ground.data }], guard := none }) (v := ?_) rfl (by kernel_rfl) (by kernel_rfl) (by kernel_rfl) (fun _ _ _ h => h) (Or.inl ⟨by rfl, ?_⟩) hH0 ?_
  rotate_left
  · intro w' hw'
    obtain ⟨⟨c0, c1, c2, c3, c4, c5, c6, c7⟩, s0, s1⟩ := hw'
    go_simp
    try with_reducible rfl
  try simp only [Act.put, List.setIfInBounds_toArray, List.set_cons_zero, List.set_cons_succ]
  refine wpAnyH_take (i := 3) (oi := { dst := some 17, op := Op.load 63 (Operand.tmp 16), type := 63, pos := "chunk.go:45", after := #[{ on := 2, ground := Ground.data }], guard := none }) (v := ?_) rfl (by kernel_rfl) (by kernel_rfl) (by kernel_rfl) (fun _ _ _ h => h) (Or.inl ⟨by rfl, ?_⟩) hH0 ?_
  rotate_left
  · intro w' hw'
    obtain ⟨⟨c0, c1, c2, c3, c4, c5, c6, c7⟩, s0, s1⟩ := hw'
    go_simp
    try with_reducible rfl
  try simp only [Act.put, List.setIfInBounds_toArray, List.set_cons_zero, List.set_cons_succ]
  refine wpAnyH_take (i := 4) (oi := { dst := some 18, op := Op.move (Operand.tmp 0), type := 29, pos := "chunk.go:45", after := #[], guard := none }) (v := ?_) rfl (by kernel_rfl) (by kernel_rfl) (by kernel_rfl) (fun _ _ _ h => h) (Or.inl ⟨by rfl, ?_⟩) hH0 ?_
  rotate_left
  · intro w' hw'
    obtain ⟨⟨c0, c1, c2, c3, c4, c5, c6, c7⟩, s0, s1⟩ := hw'
    go_simp
    try with_reducible rfl
  try simp only [Act.put, List.setIfInBounds_toArray, List.set_cons_zero, List.set_cons_succ]
  refine wpAnyH_take (i := 5) (oi := { dst := some 19, op := Op.nilCheck (Operand.tmp 18), type := 0, pos := "chunk.go:45", after := #[{ on := 4, ground := Ground.data }], guard := none }) (v := ?_) rfl (by kernel_rfl) (by kernel_rfl) (by kernel_rfl) (fun _ _ _ h => h) (Or.inl ⟨by rfl, ?_⟩) hH0 ?_
  rotate_left
  · intro w' hw'
    obtain ⟨⟨c0, c1, c2, c3, c4, c5, c6, c7⟩, s0, s1⟩ := hw'
    go_simp
    try with_reducible rfl
  try simp only [Act.put, List.setIfInBounds_toArray, List.set_cons_zero, List.set_cons_succ]
  refine wpAnyH_take (i := 6) (oi := { dst := some 20, op := Op.fieldAddr 68 (Operand.tmp 19) 1, type := 0, pos := "chunk.go:45", after := #[{ on := 5, ground := Ground.data }], guard := none }) (v := ?_) rfl (by kernel_rfl) (by kernel_rfl) (by kernel_rfl) (fun _ _ _ h => h) (Or.inl ⟨by rfl, ?_⟩) hH0 ?_
  rotate_left
  · intro w' hw'
    obtain ⟨⟨c0, c1, c2, c3, c4, c5, c6, c7⟩, s0, s1⟩ := hw'
    go_simp
    try with_reducible rfl
  try simp only [Act.put, List.setIfInBounds_toArray, List.set_cons_zero, List.set_cons_succ]
  refine wpAnyH_take (i := 7) (oi := { dst := some 21, op := Op.load 65 (Operand.tmp 20), type := 65, pos := "chunk.go:45", after := #[{ on := 6, ground := Ground.data }], guard := none }) (v := ?_) rfl (by kernel_rfl) (by kernel_rfl) (by kernel_rfl) (fun _ _ _ h => h) (Or.inl ⟨by rfl, ?_⟩) hH0 ?_
  rotate_left
  · intro w' hw'
    obtain ⟨⟨c0, c1, c2, c3, c4, c5, c6, c7⟩, s0, s1⟩ := hw'
    go_simp
    try with_reducible rfl
  try simp only [Act.put, List.setIfInBounds_toArray, List.set_cons_zero, List.set_cons_succ]
  refine wpAnyH_take (i := 8) (oi := { dst := some 22, op := Op.load 33 (Operand.tmp 3), type := 33, pos := "chunk.go:45", after := #[], guard := none }) (v := ?_) rfl (by kernel_rfl) (by kernel_rfl) (by kernel_rfl) (fun _ _ _ h => h) (Or.inl ⟨by rfl, ?_⟩) hH0 ?_
  rotate_left
  · intro w' hw'
    obtain ⟨⟨c0, c1, c2, c3, c4, c5, c6, c7⟩, s0, s1⟩ := hw'
    go_simp
    try with_reducible rfl
  try simp only [Act.put, List.setIfInBounds_toArray, List.set_cons_zero, List.set_cons_succ]
  refine wpAnyH_ready (rs := [9, 13]) (by kernel_rfl) (by simp) ?_
  refine AllReadyH.cons (o := { dst := some 23, op := Op.call { callee := Callee.value (Operand.func 28), args := #[Operand.tmp 17, Operand.tmp 21, Operand.tmp 22], argTypes := #[63, 65, 33] }, type := 69, pos := "chunk.go:45", after := #[{ on := 3, ground := Ground.data }, { on := 7, ground := Ground.data }, { on := 8, ground := Ground.data }], guard := none }) rfl (fun K hK => ?_) (AllReadyH.cons (o := { dst := some 5, op := Op.alloc 63, type := 0, pos := "chunk.go:45", after := #[], guard := none }) rfl (fun K hK => ?_) AllReadyH.nil)
  · go_simp
    refine (P.out W1.drew E1.out.drew.wr E1.out.drew.t).mono ?_
    rintro e w3 ⟨rfl, v3, W3, D3⟩
    have E3 := hide (E1.out.drew.put D3 W3)
    have K3 := hide (K1.out.drew.did D3)
    have S3 := hide (S1.out.drew.did D3)
    clear W3 D3 P E1 K1 S1
    refine hK.out _ _ ⟨K3.out.bx.eight, S3.out.bx.two⟩ (fun hH1 => ?_)
    clear hK
    try simp only [Act.put, List.setIfInBounds_toArray, List.set_cons_zero, List.set_cons_succ]
    refine wpAnyH_take (i := 10) (oi := { dst := some 13, op := Op.move (Operand.tmp 23), type := 69, pos := "chunk.go:45", after := #[{ on := 9, ground := Ground.data }], guard := none }) (v := ?_) rfl (by kernel_rfl) (by kernel_rfl) (by kernel_rfl) (fun _ _ _ h => h) (Or.inl ⟨by rfl, ?_⟩) hH1 ?_
    rotate_left
    · intro w' hw'
      obtain ⟨⟨c0, c1, c2, c3, c4, c5, c6, c7⟩, s0, s1⟩ := hw'
      go_simp
      try with_reducible rfl
    try simp only [Act.put, List.setIfInBounds_toArray, List.set_cons_zero, List.set_cons_succ]
    refine wpAnyH_take (i := 11) (oi := { dst := some 24, op := Op.extract (Operand.tmp 13) 0, type := 63, pos := "chunk.go:45", after := #[{ on := 10, ground := Ground.data }], guard := none }) (v := ?_) rfl (by kernel_rfl) (by kernel_rfl) (by kernel_rfl) (fun _ _ _ h => h) (Or.inl ⟨by rfl, ?_⟩) hH1 ?_
    rotate_left
    · intro w' hw'
      obtain ⟨⟨c0, c1, c2, c3, c4, c5, c6, c7⟩, s0, s1⟩ := hw'
      go_simp
      try with_reducible rfl
    try simp only [Act.put, List.setIfInBounds_toArray, List.set_cons_zero, List.set_cons_succ]
    refine wpAnyH_take (i := 12) (oi := { dst := some 25, op := Op.extract (Operand.tmp 13) 1, type := 25, pos := "chunk.go:45", after := #[{ on := 10, ground := Ground.data }, { on := 14, ground := Ground.gcOnly Departure.lateStores }], guard := none }) (v := ?_) rfl (by kernel_rfl) (by kernel_rfl) (by kernel_rfl) (fun _ _ _ h => h) (Or.inl ⟨by rfl, ?_⟩) hH1 ?_
    rotate_left
    · intro w' hw'
      obtain ⟨⟨c0, c1, c2, c3, c4, c5, c6, c7⟩, s0, s1⟩ := hw'
      go_simp
      try with_reducible rfl
    try simp only [Act.put, List.setIfInBounds_toArray, List.set_cons_zero, List.set_cons_succ]
    refine wpAnyH_ready (rs := [13]) (by kernel_rfl) (by simp) ?_
    refine AllReadyH.cons (o := { dst := some 5, op := Op.alloc 63, type := 0, pos := "chunk.go:45", after := #[], guard := none }) rfl (fun K hK => ?_) AllReadyH.nil
    go_simp
    refine hK.out _ _ ⟨(K3.out.bx.alloc (.cells #[.int .i64 0, .int .i64 0, .int .i64 0, .int .i64 0, .int .u64 0, .int .i64 0, .int .i64 0] 63)).eight, (S3.out.bx.alloc (.cells #[.int .i64 0, .int .i64 0, .int .i64 0, .int .i64 0, .int .u64 0, .int .i64 0, .int .i64 0] 63)).two⟩ (fun hH2 => ?_)
    clear hK
    try simp only [Act.put, List.setIfInBounds_toArray, List.set_cons_zero, List.set_cons_succ]
    have E4 := hide (E3.out.alloc (.cells #[.int .i64 0, .int .i64 0, .int .i64 0, .int .i64 0, .int .u64 0, .int .i64 0, .int .i64 0] 63))
    have K4 := hide (K3.out.alloc (.cells #[.int .i64 0, .int .i64 0, .int .i64 0, .int .i64 0, .int .u64 0, .int .i64 0, .int .i64 0] 63))
    have S4 := hide (S3.out.alloc (.cells #[.int .i64 0, .int .i64 0, .int .i64 0, .int .i64 0, .int .u64 0, .int .i64 0, .int .i64 0] 63))
    have X4 := hide (Kx.new E3.out.wr 63 #[.int .i64 0, .int .i64 0, .int .i64 0, .int .i64 0, .int .u64 0, .int .i64 0, .int .i64 0])
    obtain ⟨gN, hgN⟩ : ∃ gN, w3.heap.size = gN := ⟨_, rfl⟩
    have hgq : Hid (q ≠ gN ∧ g ≠ gN ∧ w.heap.size ≤ gN) := by have := K3.out.bx.lt; have := S3.out.bx.lt; have := E3.out.d.bel.size; exact ⟨by omega, by omega, by omega⟩
    simp only [hgN] at X4 ⊢
    generalize w3.alloc (.cells #[.int .i64 0, .int .i64 0, .int .i64 0, .int .i64 0, .int .u64 0, .int .i64 0, .int .i64 0] 63) = w4 at *
    clear E3 K3 S3 hgN
    refine wpAnyH_ready (rs := [14]) (by kernel_rfl) (by simp) ?_
    refine AllReadyH.cons (o := { dst := none, op := Op.store 63 (Operand.tmp 5) (Operand.tmp 24), type := 0, pos := "chunk.go:45", after := #[{ on := 13, ground := Ground.data }, { on := 11, ground := Ground.data }, { on := 9, ground := Ground.chain }, { on := 0, ground := Ground.phase }, { on := 1, ground := Ground.phase }, { on := 2, ground := Ground.phase }, { on := 3, ground := Ground.phase }, { on := 4, ground := Ground.phase }, { on := 5, ground := Ground.phase }, { on := 6, ground := Ground.phase }, { on := 7, ground := Ground.phase }, { on := 8, ground := Ground.phase }, { on := 9, ground := Ground.phase }, { on := 10, ground := Ground.phase }, { on := 11, ground := Ground.phase }, { on := 12, ground := Ground.textOnly Departure.lateStores }, { on := 13, ground := Ground.phase }], guard := none }) rfl (fun K hK => ?_) AllReadyH.nil
    refine step_storeZ rfl (.tmp 5) (.tmp 24) rfl gN _ _ _ _ _ _ _ rfl rfl 63 _ _ _ _ _ _ _ X4.out.bx ?_
    have bN := hide (but_setRow w4 gN #[.int .i64 y0, .int .i64 y1, .int .i64 y2, .int .i64 y3, .int .u64 y4, .int .i64 y5, .int .i64 y6])
    have E5 := hide (E4.out.but bN.out hgq.out.2.2 X4.out.nf)
    have K5 := hide (K4.out.but bN.out hgq.out.1)
    have S5 := hide (S4.out.but bN.out hgq.out.2.1)
    have X5 := hide (X4.out.bx.setRow #[.int .i64 y0, .int .i64 y1, .int .i64 y2, .int .i64 y3, .int .u64 y4, .int .i64 y5, .int .i64 y6])
    refine hK.out _ _ ⟨K5.out.bx.eight, S5.out.bx.two⟩ (fun hH3 => ?_)
    clear hK
    try simp only [Act.put, List.setIfInBounds_toArray, List.set_cons_zero, List.set_cons_succ]
    refine wpAnyH_take (i := 15) (oi := { dst := some 6, op := Op.assign (Operand.tmp 25), type := 25, pos := "chunk.go:45", after := #[{ on := 12, ground := Ground.data }, { on := 14, ground := Ground.chain }, { on := 0, ground := Ground.phase }, { on := 1, ground := Ground.phase }, { on := 2, ground := Ground.phase }, { on := 3, ground := Ground.phase }, { on := 4, ground := Ground.phase }, { on := 5, ground := Ground.phase }, { on := 6, ground := Ground.phase }, { on := 7, ground := Ground.phase }, { on := 8, ground := Ground.phase }, { on := 9, ground := Ground.phase }, { on := 10, ground := Ground.phase }, { on := 11, ground := Ground.phase }, { on := 12, ground := Ground.phase }, { on := 13, ground := Ground.phase }, { on := 14, ground := Ground.phase }], guard := none }) (v := ?_) rfl (by kernel_rfl) (by kernel_rfl) (by kernel_rfl) (fun _ _ _ h => h) (Or.inl ⟨by rfl, ?_⟩) hH3 ?_
    rotate_left
    · intro w' hw'
      obtain ⟨⟨c0, c1, c2, c3, c4, c5, c6, c7⟩, s0, s1⟩ := hw'
      go_simp
      try with_reducible rfl
    try simp only [Act.put, List.setIfInBounds_toArray, List.set_cons_zero, List.set_cons_succ]
    refine wpAnyH_done (by kernel_rfl) ?_ _
    refine NoPanic.normal ?_
    generalize w4.setRow gN #[.int .i64 y0, .int .i64 y1, .int .i64 y2, .int .i64 y3, .int .u64 y4, .int .i64 y5, .int .i64 y6] = w5 at *
    clear E4 K4 S4 X4 bN S5
    obtain ⟨x0, x1, x2, x3, x4, x5, x6⟩ := X5.out.seven
    go_wp2_with fail
    go_ret
    exact ⟨rfl, v3, E5.out.wr, K5.out.nf, K5.out.bx, E5.out.d.bel, E5.out.d.but.mono (fun i hi => .inr hi), fun i hi hf => by rcases hf with hf | hf; exact .inl hf; exact .inr (E5.out.d.own i hi hf)⟩
  · go_simp
    have Ea := hide ((E1.out.alloc (.cells #[.int .i64 0, .int .i64 0, .int .i64 0, .int .i64 0, .int .u64 0, .int .i64 0, .int .i64 0] 63)).drew)
    have Ka := hide ((K1.out.alloc (.cells #[.int .i64 0, .int .i64 0, .int .i64 0, .int .i64 0, .int .u64 0, .int .i64 0, .int .i64 0] 63)).drew)
    have Sa := hide ((S1.out.alloc (.cells #[.int .i64 0, .int .i64 0, .int .i64 0, .int .i64 0, .int .u64 0, .int .i64 0, .int .i64 0] 63)).drew)
    have Xa := hide ((Kx.new E1.out.wr 63 #[.int .i64 0, .int .i64 0, .int .i64 0, .int .i64 0, .int .u64 0, .int .i64 0, .int .i64 0]).drew)
    refine hK.out _ _ ⟨Ka.out.bx.eight, Sa.out.bx.two⟩ (fun hH1 => ?_)
    clear hK
    try simp only [Act.put, List.setIfInBounds_toArray, List.set_cons_zero, List.set_cons_succ]
    refine wpAnyH_ready (rs := [9]) (by kernel_rfl) (by simp) ?_
    refine AllReadyH.cons (o := { dst := some 23, op := Op.call { callee := Callee.value (Operand.func 28), args := #[Operand.tmp 17, Operand.tmp 21, Operand.tmp 22], argTypes := #[63, 65, 33] }, type := 69, pos := "chunk.go:45", after := #[{ on := 3, ground := Ground.data }, { on := 7, ground := Ground.data }, { on := 8, ground := Ground.data }], guard := none }) rfl (fun K hK => ?_) AllReadyH.nil
    go_simp
    refine (P.out _ Ea.out.wr Ea.out.t).mono ?_
    rintro e w4 ⟨rfl, v3, W3, D3⟩
    have E4 := hide (Ea.out.put D3 W3)
    have K4 := hide (Ka.out.did D3)
    have S4 := hide (Sa.out.did D3)
    have X4 := hide (Xa.out.did D3)
    obtain ⟨gN, hgN⟩ : ∃ gN, W1.heap.size = gN := ⟨_, rfl⟩
    have hgq : Hid (q ≠ gN ∧ g ≠ gN ∧ w.heap.size ≤ gN) := by have := K1.out.bx.lt; have := S1.out.bx.lt; have := E1.out.d.bel.size; exact ⟨by omega, by omega, by omega⟩
    simp only [hgN] at X4 ⊢
    clear W3 D3 P Ea Ka Sa Xa E1 K1 S1
    refine hK.out _ _ ⟨K4.out.bx.eight, S4.out.bx.two⟩ (fun hH2 => ?_)
    clear hK
    try simp only [Act.put, List.setIfInBounds_toArray, List.set_cons_zero, List.set_cons_succ]
    refine wpAnyH_take (i := 10) (oi := { dst := some 13, op := Op.move (Operand.tmp 23), type := 69, pos := "chunk.go:45", after := #[{ on := 9, ground := Ground.data }], guard := none }) (v := ?_) rfl (by kernel_rfl) (by kernel_rfl) (by kernel_rfl) (fun _ _ _ h => h) (Or.inl ⟨by rfl, ?_⟩) hH2 ?_
    rotate_left
    · intro w' hw'
      obtain ⟨⟨c0, c1, c2, c3, c4, c5, c6, c7⟩, s0, s1⟩ := hw'
      go_simp
      try with_reducible rfl
    try simp only [Act.put, List.setIfInBounds_toArray, List.set_cons_zero, List.set_cons_succ]
    refine wpAnyH_take (i := 11) (oi := { dst := some 24, op := Op.extract (Operand.tmp 13) 0, type := 63, pos := "chunk.go:45", after := #[{ on := 10, ground := Ground.data }], guard := none }) (v := ?_) rfl (by kernel_rfl) (by kernel_rfl) (by kernel_rfl) (fun _ _ _ h => h) (Or.inl ⟨by rfl, ?_⟩) hH2 ?_
    rotate_left
    · intro w' hw'
      obtain ⟨⟨c0, c1, c2, c3, c4, c5, c6, c7⟩, s0, s1⟩ := hw'
      go_simp
      try with_reducible rfl
    try simp only [Act.put, List.setIfInBounds_toArray, List.set_cons_zero, List.set_cons_succ]
    refine wpAnyH_take (i := 12) (oi := { dst := some 25, op := Op.extract (Operand.tmp 13) 1, type := 25, pos := "chunk.go:45", after := #[{ on := 10, ground := Ground.data }, { on := 14, ground := Ground.gcOnly Departure.lateStores }], guard := none }) (v := ?_) rfl (by kernel_rfl) (by kernel_rfl) (by kernel_rfl) (fun _ _ _ h => h) (Or.inl ⟨by rfl, ?_⟩) hH2 ?_
    rotate_left
    · intro w' hw'
      obtain ⟨⟨c0, c1, c2, c3, c4, c5, c6, c7⟩, s0, s1⟩ := hw'
      go_simp
      try with_reducible rfl
    try simp only [Act.put, List.setIfInBounds_toArray, List.set_cons_zero, List.set_cons_succ]
    refine wpAnyH_ready (rs := [14]) (by kernel_rfl) (by simp) ?_
    refine AllReadyH.cons (o := { dst := none, op := Op.store 63 (Operand.tmp 5) (Operand.tmp 24), type := 0, pos := "chunk.go:45", after := #[{ on := 13, ground := Ground.data }, { on := 11, ground := Ground.data }, { on := 9, ground := Ground.chain }, { on := 0, ground := Ground.phase }, { on := 1, ground := Ground.phase }, { on := 2, ground := Ground.phase }, { on := 3, ground := Ground.phase }, { on := 4, ground := Ground.phase }, { on := 5, ground := Ground.phase }, { on := 6, ground := Ground.phase }, { on := 7, ground := Ground.phase }, { on := 8, ground := Ground.phase }, { on := 9, ground := Ground.phase }, { on := 10, ground := Ground.phase }, { on := 11, ground := Ground.phase }, { on := 12, ground := Ground.textOnly Departure.lateStores }, { on := 13, ground := Ground.phase }], guard := none }) rfl (fun K hK => ?_) AllReadyH.nil
    refine step_storeZ rfl (.tmp 5) (.tmp 24) rfl gN _ _ _ _ _ _ _ rfl rfl 63 _ _ _ _ _ _ _ X4.out.bx ?_
    have bN := hide (but_setRow w4 gN #[.int .i64 y0, .int .i64 y1, .int .i64 y2, .int .i64 y3, .int .u64 y4, .int .i64 y5, .int .i64 y6])
    have E5 := hide (E4.out.but bN.out hgq.out.2.2 X4.out.nf)
    have K5 := hide (K4.out.but bN.out hgq.out.1)
    have S5 := hide (S4.out.but bN.out hgq.out.2.1)
    have X5 := hide (X4.out.bx.setRow #[.int .i64 y0, .int .i64 y1, .int .i64 y2, .int .i64 y3, .int .u64 y4, .int .i64 y5, .int .i64 y6])
    refine hK.out _ _ ⟨K5.out.bx.eight, S5.out.bx.two⟩ (fun hH3 => ?_)
    clear hK
    try simp only [Act.put, List.setIfInBounds_toArray, List.set_cons_zero, List.set_cons_succ]
    refine wpAnyH_take (i := 15) (oi := { dst := some 6, op := Op.assign (Operand.tmp 25), type := 25, pos := "chunk.go:45", after := #[{ on := 12, ground := Ground.data }, { on := 14, ground := Ground.chain }, { on := 0, ground := Ground.phase }, { on := 1, ground := Ground.phase }, { on := 2, ground := Ground.phase }, { on := 3, ground := Ground.phase }, { on := 4, ground := Ground.phase }, { on := 5, ground := Ground.phase }, { on := 6, ground := Ground.phase }, { on := 7, ground := Ground.phase }, { on := 8, ground := Ground.phase }, { on := 9, ground := Ground.phase }, { on := 10, ground := Ground.phase }, { on := 11, ground := Ground.phase }, { on := 12, ground := Ground.phase }, { on := 13, ground := Ground.phase }, { on := 14, ground := Ground.phase }], guard := none }) (v := ?_) rfl (by kernel_rfl) (by kernel_rfl) (by kernel_rfl) (fun _ _ _ h => h) (Or.inl ⟨by rfl, ?_⟩) hH3 ?_
    rotate_left
    · intro w' hw'
      obtain ⟨⟨c0, c1, c2, c3, c4, c5, c6, c7⟩, s0, s1⟩ := hw'
      go_simp
      try with_reducible rfl
    try simp only [Act.put, List.setIfInBounds_toArray, List.set_cons_zero, List.set_cons_succ]
    refine wpAnyH_done (by kernel_rfl) ?_ _
    refine NoPanic.normal ?_
    generalize w4.setRow gN #[.int .i64 y0, .int .i64 y1, .int .i64 y2, .int .i64 y3, .int .u64 y4, .int .i64 y5, .int .i64 y6] = w5 at *
    clear E4 K4 S4 X4 bN S5
    obtain ⟨x0, x1, x2, x3, x4, x5, x6⟩ := X5.out.seven
    go_wp2_with fail
    go_ret
    exact ⟨rfl, v3, E5.out.wr, K5.out.nf, K5.out.bx, E5.out.d.bel, E5.out.d.but.mono (fun i hi => .inr hi), fun i hi hf => by rcases hf with hf | hf; exact .inl hf; exact .inr (E5.out.d.own i hi hf)⟩

theorem add_ok {w : World} {base q p A k : Nat} {v : Value} {z : Z} (h : Bd w base q p v z A k) (hT : Tabs w) (hb0 : 2 < base) {s : Sm} (hz : OkZ z) (hs : OkN z s) (hn : z.n < 120) (hroom : k + 130 ≤ 524288) :
    Calls Tryz.prog 10 #[.pointer (some ⟨q, 0, none⟩), .agg #[.int .i64 (s.1 : Int), .int .u64 (s.2 : Int)]] w fun e w' => e = .returned (.int .i64 0) ∧ ∃ v', Bd w' base q p v' (nxt z s) (A * 2 ^ kN z s + kX z s) (k + kN z s) ∧ DidB w w' base q p v v' := by
  have hge := h.ge
  refine (add_core (A' := A * 2 ^ kN z s + kX z s) (k' := k + kN z s) h hT hb0 hn (fun wx hw ht => cput hw ht hb0 hz hs hroom)).mono ?_
  rintro e w' ⟨rfl, v', W, N, B, d⟩
  exact ⟨rfl, v', ⟨B, W, N, hge⟩, d⟩
theorem add_no {w : World} {base q p A k : Nat} {v : Value} {z : Z} (h : Bd w base q p v z A k) (hT : Tabs w) (hb0 : 2 < base) {t : Int} {x : Nat} (hno : okTI (z.n : Int) (z.L : Int) t = false) (hn : z.n < 120) (hroom : k + 130 ≤ 524288) :
    Calls Tryz.prog 10 #[.pointer (some ⟨q, 0, none⟩), .agg #[.int .i64 t, .int .u64 (x : Int)]] w fun e w' => e = .returned (.int .i64 60) ∧ ∃ v', Bd w' base q p v' z A k ∧ DidB w w' base q p v v' := by
  have hge := h.ge
  refine (add_coreNo (A' := A) (k' := k) h hT hb0 hn (fun wx hw ht => cput_no hw ht hb0 hno hroom)).mono ?_
  rintro e w' ⟨rfl, v', W, N, B, d⟩
  exact ⟨rfl, v', ⟨B, W, N, hge⟩, d⟩
set_option maxHeartbeats 1000000 in
theorem add_full {w : World} {base q p A k : Nat} {v : Value} {z : Z} (h : Bd w base q p v z A k) {t : Int} {x : Nat} (hn : 120 ≤ z.n) (hn2 : z.n ≤ 4096) :
    Calls Tryz.prog 10 #[.pointer (some ⟨q, 0, none⟩), .agg #[.int .i64 t, .int .u64 (x : Int)]] w fun e w' => e = .returned (.int .i64 4) ∧ Below w.heap.size w w' := by
  have B0 : Hid (Below w.heap.size w (w.alloc (.cells #[.int .i64 t, .int .u64 (x : Int)] 33))) := (Below.refl _ w).alloc (Nat.le_refl _) _
  have B1 := hide (h.below B0.out)
  have i1 : (120 : Int) ≤ (z.n : Int) := by omega
  clear h
  go_enter Tryz.func10, Tryz.ntmps10
  go_wp2_with fail
  refine (isMade_any B1.out).mono ?_
  rintro e wx ⟨rfl, rfl⟩
  go_wp2_with fail
  refine (len_any B1.out).mono ?_
  rintro e wx ⟨rfl, rfl⟩
  clear B1
  go_wp2_with fail
  go_ret
  exact ⟨rfl, B0.out⟩
end Go.Proofs.YtmjjedbdedemcaaGreatDoor
