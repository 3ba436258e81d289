/-
  SymNumbers: the region that holds two tables against each other (a region that draws its order).
-/
import Derived.Test.YtbinnpadmajgpaaT
import Derived.Deep.RegionHeld3
namespace Go.Proofs.Ytbinnpadmajgpaa
open Go.RowKit Go.Shelf
set_option linter.unusedVariables false
set_option linter.unusedSimpArgs false

set_option maxHeartbeats 4000000 in
set_option maxRecDepth 100000 in
theorem reg4_18 (w : World) (gB g5 m : Nat) (sl sl5 : Value) (X : List Int) (h0 : ∀ W, Below w.heap.size w W → (loadVar 27 ⟨gB, 0, none⟩).run Try.prog W = .ok (.agg #[sl]) W ∧ (loadVar 27 ⟨g5, 0, none⟩).run Try.prog W = .ok (.agg #[sl5]) W) (hB1 : ∀ W, Below w.heap.size w W → Calls Try.prog 9 #[.agg #[sl]] W fun e w' => ∃ a' n' c', e = .returned (.slice a' n' c') ∧ V.Has w' a' n' c' X ∧ Below W.heap.size W w') (hB2 : ∀ W, Below w.heap.size w W → Calls Try.prog 9 #[.agg #[sl5]] W fun e w' => ∃ a' n' c', e = .returned (.slice a' n' c') ∧ V.Has w' a' n' c' X ∧ Below W.heap.size W w') (hL1 : ∀ W, Calls Try.prog 13 #[.agg #[sl]] W fun e w' => e = .returned (.int .i64 (m : Int)) ∧ Below W.heap.size W w') (hL2 : ∀ W, Calls Try.prog 13 #[.agg #[sl5]] W fun e w' => e = .returned (.int .i64 (m : Int)) ∧ Below W.heap.size W w')
    (u0 u1 u2 u3 u4 u6 u7 u8 u9 u10 u11 u12 u13 u16 u17 u18 u19 u20 u21 u22 u23 u24 u25 u26 u27 u28 u29 u30 u31 u32 u33 u34 u35 u36 u37 u38 u39 u40 u41 u42 u43 u44 u45 u46 u47 u48 u49 u50 u51 u52 u53 u54 u55 u56 u57 u58 u59 u60 u61 u62 u63 u64 u65 u66 u67 u68 u69 u70 u71 u72 u73 u74 u75 u76 u77 u78 u79 u80 u81 u82 u83 u84 u85 u86 u87 u88 u89 u90 u91 u92 u93 u94 u95 u96 u97 u98 u99 u100 u101 u102 u103 u104 : Value) (Q : Exit → Act → World → Prop)
    (h : ∀ w' a1 n1 c1 a2 n2 c2, Below w.heap.size w w' → Q .normal { tmps := (List.toArray ((u0 :: u1 :: u2 :: u3 :: .bool true :: .pointer (some ⟨g5, 0, none⟩) :: u6 :: u7 :: u8 :: u9 :: u10 :: u11 :: u12 :: u13 :: .pointer (some ⟨gB, 0, none⟩) :: .int .i64 0 :: u16 :: u17 :: u18 :: u19 :: u20 :: u21 :: u22 :: u23 :: u24 :: u25 :: u26 :: u27 :: u28 :: u29 :: u30 :: u31 :: u32 :: u33 :: u34 :: u35 :: u36 :: u37 :: u38 :: u39 :: u40 :: u41 :: u42 :: u43 :: u44 :: u45 :: u46 :: u47 :: u48 :: u49 :: u50 :: u51 :: u52 :: u53 :: u54 :: u55 :: u56 :: u57 :: u58 :: u59 :: u60 :: u61 :: u62 :: u63 :: u64 :: u65 :: u66 :: u67 :: u68 :: u69 :: u70 :: u71 :: u72 :: u73 :: u74 :: u75 :: u76 :: u77 :: u78 :: u79 :: u80 :: u81 :: u82 :: u83 :: u84 :: u85 :: u86 :: u87 :: u88 :: .int .i64 0 :: .bool true :: .bool true :: .agg #[sl] :: .slice a1 n1 c1 :: .agg #[sl5] :: .slice a2 n2 c2 :: .bool true :: .bool true :: .bool true :: .agg #[sl] :: .int .i64 (m : Int) :: .agg #[sl5] :: .int .i64 (m : Int) :: .bool true :: .bool true :: []) : List Value)), defers := [] } w') :
    (Code.region 18 #[{ dst := some 89, op := Op.move (Operand.tmp 15), type := 28, pos := "law.go:116", after := #[], guard := none }, { dst := some 90, op := Op.binOp BinOp.eql 28 (Operand.tmp 89) (Operand.const (Value.int IntKind.i64 0)) 28, type := 4, pos := "law.go:116", after := #[{ on := 0, ground := Ground.data }], guard := none }, { dst := some 91, op := Op.move (Operand.tmp 90), type := 4, pos := "law.go:116", after := #[{ on := 1, ground := Ground.data }], guard := none }, { dst := some 92, op := Op.load 27 (Operand.tmp 14), type := 27, pos := "law.go:116", after := #[{ on := 2, ground := Ground.guard }], guard := some (2, true) }, { dst := some 93, op := Op.call { callee := Callee.value (Operand.func 9), args := #[Operand.tmp 92], argTypes := #[27] }, type := 23, pos := "law.go:116", after := #[{ on := 3, ground := Ground.data }, { on := 2, ground := Ground.chain }, { on := 2, ground := Ground.guard }], guard := some (2, true) }, { dst := some 94, op := Op.load 27 (Operand.tmp 5), type := 27, pos := "law.go:116", after := #[{ on := 2, ground := Ground.guard }], guard := some (2, true) }, { dst := some 95, op := Op.call { callee := Callee.value (Operand.func 9), args := #[Operand.tmp 94], argTypes := #[27] }, type := 23, pos := "law.go:116", after := #[{ on := 5, ground := Ground.data }, { on := 4, ground := Ground.chain }, { on := 2, ground := Ground.guard }], guard := some (2, true) }, { dst := some 96, op := Op.call { callee := Callee.value (Operand.func 12), args := #[Operand.tmp 93, Operand.tmp 95], argTypes := #[23, 23] }, type := 4, pos := "law.go:116", after := #[{ on := 4, ground := Ground.data }, { on := 6, ground := Ground.data }, { on := 6, ground := Ground.chain }, { on := 2, ground := Ground.guard }], guard := some (2, true) }, { dst := some 97, op := Op.pick (Operand.tmp 91) (Operand.tmp 96) (Operand.const (Value.bool false)), type := 4, pos := "law.go:116", after := #[{ on := 2, ground := Ground.data }, { on := 7, ground := Ground.data }], guard := none }, { dst := some 98, op := Op.move (Operand.tmp 97), type := 4, pos := "law.go:116", after := #[{ on := 8, ground := Ground.data }, { on := 7, ground := Ground.chain }], guard := none }, { dst := some 99, op := Op.load 27 (Operand.tmp 14), type := 27, pos := "law.go:116", after := #[{ on := 9, ground := Ground.guard }], guard := some (9, true) }, { dst := some 100, op := Op.call { callee := Callee.value (Operand.func 13), args := #[Operand.tmp 99], argTypes := #[27] }, type := 3, pos := "law.go:116", after := #[{ on := 10, ground := Ground.data }, { on := 9, ground := Ground.chain }, { on := 9, ground := Ground.guard }], guard := some (9, true) }, { dst := some 101, op := Op.load 27 (Operand.tmp 5), type := 27, pos := "law.go:116", after := #[{ on := 9, ground := Ground.guard }], guard := some (9, true) }, { dst := some 102, op := Op.call { callee := Callee.value (Operand.func 13), args := #[Operand.tmp 101], argTypes := #[27] }, type := 3, pos := "law.go:116", after := #[{ on := 12, ground := Ground.data }, { on := 11, ground := Ground.chain }, { on := 9, ground := Ground.guard }], guard := some (9, true) }, { dst := some 103, op := Op.binOp BinOp.eql 3 (Operand.tmp 100) (Operand.tmp 102) 3, type := 4, pos := "law.go:116", after := #[{ on := 11, ground := Ground.data }, { on := 13, ground := Ground.data }, { on := 9, ground := Ground.guard }], guard := some (9, true) }, { dst := some 104, op := Op.pick (Operand.tmp 98) (Operand.tmp 103) (Operand.const (Value.bool false)), type := 4, pos := "law.go:116", after := #[{ on := 9, ground := Ground.data }, { on := 14, ground := Ground.data }], guard := none }, { dst := some 4, op := Op.assign (Operand.tmp 104), type := 4, pos := "law.go:116", after := #[{ on := 15, ground := Ground.data }, { on := 13, ground := Ground.chain }, { on := 0, ground := Ground.phase }, { on := 1, ground := Ground.phase }, { on := 2, ground := Ground.phase }, { on := 3, ground := Ground.phase }, { on := 4, ground := Ground.phase }, { on := 5, ground := Ground.phase }, { on := 6, ground := Ground.phase }, { on := 7, ground := Ground.phase }, { on := 8, ground := Ground.phase }, { on := 9, ground := Ground.phase }, { on := 10, ground := Ground.phase }, { on := 11, ground := Ground.phase }, { on := 12, ground := Ground.phase }, { on := 13, ground := Ground.phase }, { on := 14, ground := Ground.phase }, { on := 15, ground := Ground.phase }], guard := none }] true).wp Try.prog Q { tmps := (List.toArray ((u0 :: u1 :: u2 :: u3 :: u4 :: .pointer (some ⟨g5, 0, none⟩) :: u6 :: u7 :: u8 :: u9 :: u10 :: u11 :: u12 :: u13 :: .pointer (some ⟨gB, 0, none⟩) :: .int .i64 0 :: u16 :: u17 :: u18 :: u19 :: u20 :: u21 :: u22 :: u23 :: u24 :: u25 :: u26 :: u27 :: u28 :: u29 :: u30 :: u31 :: u32 :: u33 :: u34 :: u35 :: u36 :: u37 :: u38 :: u39 :: u40 :: u41 :: u42 :: u43 :: u44 :: u45 :: u46 :: u47 :: u48 :: u49 :: u50 :: u51 :: u52 :: u53 :: u54 :: u55 :: u56 :: u57 :: u58 :: u59 :: u60 :: u61 :: u62 :: u63 :: u64 :: u65 :: u66 :: u67 :: u68 :: u69 :: u70 :: u71 :: u72 :: u73 :: u74 :: u75 :: u76 :: u77 :: u78 :: u79 :: u80 :: u81 :: u82 :: u83 :: u84 :: u85 :: u86 :: u87 :: u88 :: u89 :: u90 :: u91 :: u92 :: u93 :: u94 :: u95 :: u96 :: u97 :: u98 :: u99 :: u100 :: u101 :: u102 :: u103 :: u104 :: []) : List Value)), defers := [] } w := by
  have hC := hide h0
  clear h0
  replace hB1 := hide hB1
  replace hB2 := hide hB2
  replace hL1 := hide hL1
  replace hL2 := hide hL2
  replace h := hide h
  refine wp_region_noPanic ?_
  refine wp_region_held_drew (S := fun w0 => Below w.heap.size w w0) (by kernel_rfl) (below_drew' (Below.refl _ _)) (fun hD => ?_)
  refine wpAnyH_take (i := 0) (oi := { dst := some 89, op := Op.move (Operand.tmp 15), type := 28, pos := "law.go:116", after := #[], guard := none }) (v := ?_) rfl (by kernel_rfl) (by kernel_rfl) (by kernel_rfl) (fun _ _ _ h => h) (Or.inl ⟨by rfl, ?_⟩) hD ?_
  rotate_left
  · intro w' hw'
    clear hw'
    go_simp
    try with_reducible rfl
  try simp only [Act.put, List.setIfInBounds_toArray, List.set_cons_zero, List.set_cons_succ]
  refine wpAnyH_take (i := 1) (oi := { dst := some 90, op := Op.binOp BinOp.eql 28 (Operand.tmp 89) (Operand.const (Value.int IntKind.i64 0)) 28, type := 4, pos := "law.go:116", after := #[{ on := 0, ground := Ground.data }], guard := none }) (v := ?_) rfl (by kernel_rfl) (by kernel_rfl) (by kernel_rfl) (fun _ _ _ h => h) (Or.inl ⟨by rfl, ?_⟩) hD ?_
  rotate_left
  · intro w' hw'
    clear hw'
    go_simp
    try with_reducible rfl
  try simp only [Act.put, List.setIfInBounds_toArray, List.set_cons_zero, List.set_cons_succ]
  refine wpAnyH_take (i := 2) (oi := { dst := some 91, op := Op.move (Operand.tmp 90), type := 4, pos := "law.go:116", after := #[{ on := 1, ground := Ground.data }], guard := none }) (v := ?_) rfl (by kernel_rfl) (by kernel_rfl) (by kernel_rfl) (fun _ _ _ h => h) (Or.inl ⟨by rfl, ?_⟩) hD ?_
  rotate_left
  · intro w' hw'
    clear hw'
    go_simp
    try with_reducible rfl
  try simp only [Act.put, List.setIfInBounds_toArray, List.set_cons_zero, List.set_cons_succ]
  refine wpAnyH_take (i := 3) (oi := { dst := some 92, op := Op.load 27 (Operand.tmp 14), type := 27, pos := "law.go:116", after := #[{ on := 2, ground := Ground.guard }], guard := some (2, true) }) (v := .agg #[sl]) rfl (by kernel_rfl) (by kernel_rfl) (by kernel_rfl) (fun _ _ _ h => h) (Or.inl ⟨by rfl, ?_⟩) hD ?_
  · intro w' hw'
    exact run_ldx _ rfl ((hC.out _ hw').1)
  try simp only [Act.put, List.setIfInBounds_toArray, List.set_cons_zero, List.set_cons_succ]
  refine wpAnyH_take (i := 5) (oi := { dst := some 94, op := Op.load 27 (Operand.tmp 5), type := 27, pos := "law.go:116", after := #[{ on := 2, ground := Ground.guard }], guard := some (2, true) }) (v := .agg #[sl5]) rfl (by kernel_rfl) (by kernel_rfl) (by kernel_rfl) (fun _ _ _ h => h) (Or.inl ⟨by rfl, ?_⟩) hD ?_
  · intro w' hw'
    exact run_ldx _ rfl ((hC.out _ hw').2)
  try simp only [Act.put, List.setIfInBounds_toArray, List.set_cons_zero, List.set_cons_succ]
  refine wpAnyH_ready (rs := [4]) (by kernel_rfl) (by simp) ?_
  refine (AllReadyH.cons (o := { dst := some 93, op := Op.call { callee := Callee.value (Operand.func 9), args := #[Operand.tmp 92], argTypes := #[27] }, type := 23, pos := "law.go:116", after := #[{ on := 3, ground := Ground.data }, { on := 2, ground := Ground.chain }, { on := 2, ground := Ground.guard }], guard := some (2, true) }) rfl (fun K4 hK4 => ?_) AllReadyH.nil)
  go_simp
  refine (hB1.out _ hD).mono ?_
  rintro e w1x ⟨a1, n1, c1, rfl, H1, B1⟩
  refine hK4.out _ _ (hD.trans (B1.mono hD.size)) (fun hD1 => ?_)
  clear hK4 K4
  try simp only [Act.put, List.setIfInBounds_toArray, List.set_cons_zero, List.set_cons_succ]
  refine wpAnyH_ready (rs := [6]) (by kernel_rfl) (by simp) ?_
  refine (AllReadyH.cons (o := { dst := some 95, op := Op.call { callee := Callee.value (Operand.func 9), args := #[Operand.tmp 94], argTypes := #[27] }, type := 23, pos := "law.go:116", after := #[{ on := 5, ground := Ground.data }, { on := 4, ground := Ground.chain }, { on := 2, ground := Ground.guard }], guard := some (2, true) }) rfl (fun K6 hK6 => ?_) AllReadyH.nil)
  go_simp
  refine (hB2.out _ hD1).mono ?_
  rintro e w2x ⟨a2, n2, c2, rfl, H2, B2⟩
  refine hK6.out _ _ (hD1.trans (B2.mono hD1.size)) (fun hD2 => ?_)
  clear hK6 K6
  try simp only [Act.put, List.setIfInBounds_toArray, List.set_cons_zero, List.set_cons_succ]
  refine wpAnyH_ready (rs := [7]) (by kernel_rfl) (by simp) ?_
  refine (AllReadyH.cons (o := { dst := some 96, op := Op.call { callee := Callee.value (Operand.func 12), args := #[Operand.tmp 93, Operand.tmp 95], argTypes := #[23, 23] }, type := 4, pos := "law.go:116", after := #[{ on := 4, ground := Ground.data }, { on := 6, ground := Ground.data }, { on := 6, ground := Ground.chain }, { on := 2, ground := Ground.guard }], guard := some (2, true) }) rfl (fun K7 hK7 => ?_) AllReadyH.nil)
  go_simp
  refine (V.same_yes _ _ _ _ _ _ _ _ _ (H1.kept B2 (Nat.le_refl _)) H2 rfl).mono ?_
  rintro e w3x ⟨rfl, rfl⟩
  refine hK7.out _ _ (hD2) (fun hD3 => ?_)
  clear hK7 K7
  try simp only [Act.put, List.setIfInBounds_toArray, List.set_cons_zero, List.set_cons_succ]
  refine wpAnyH_take (i := 8) (oi := { dst := some 97, op := Op.pick (Operand.tmp 91) (Operand.tmp 96) (Operand.const (Value.bool false)), type := 4, pos := "law.go:116", after := #[{ on := 2, ground := Ground.data }, { on := 7, ground := Ground.data }], guard := none }) (v := ?_) rfl (by kernel_rfl) (by kernel_rfl) (by kernel_rfl) (fun _ _ _ h => h) (Or.inl ⟨by rfl, ?_⟩) hD3 ?_
  rotate_left
  · intro w' hw'
    clear hw'
    go_simp
    try with_reducible rfl
  try simp only [Act.put, List.setIfInBounds_toArray, List.set_cons_zero, List.set_cons_succ]
  refine wpAnyH_take (i := 9) (oi := { dst := some 98, op := Op.move (Operand.tmp 97), type := 4, pos := "law.go:116", after := #[{ on := 8, ground := Ground.data }, { on := 7, ground := Ground.chain }], guard := none }) (v := ?_) rfl (by kernel_rfl) (by kernel_rfl) (by kernel_rfl) (fun _ _ _ h => h) (Or.inl ⟨by rfl, ?_⟩) hD3 ?_
  rotate_left
  · intro w' hw'
    clear hw'
    go_simp
    try with_reducible rfl
  try simp only [Act.put, List.setIfInBounds_toArray, List.set_cons_zero, List.set_cons_succ]
  refine wpAnyH_take (i := 10) (oi := { dst := some 99, op := Op.load 27 (Operand.tmp 14), type := 27, pos := "law.go:116", after := #[{ on := 9, ground := Ground.guard }], guard := some (9, true) }) (v := .agg #[sl]) rfl (by kernel_rfl) (by kernel_rfl) (by kernel_rfl) (fun _ _ _ h => h) (Or.inl ⟨by rfl, ?_⟩) hD3 ?_
  · intro w' hw'
    exact run_ldx _ rfl ((hC.out _ hw').1)
  try simp only [Act.put, List.setIfInBounds_toArray, List.set_cons_zero, List.set_cons_succ]
  refine wpAnyH_take (i := 12) (oi := { dst := some 101, op := Op.load 27 (Operand.tmp 5), type := 27, pos := "law.go:116", after := #[{ on := 9, ground := Ground.guard }], guard := some (9, true) }) (v := .agg #[sl5]) rfl (by kernel_rfl) (by kernel_rfl) (by kernel_rfl) (fun _ _ _ h => h) (Or.inl ⟨by rfl, ?_⟩) hD3 ?_
  · intro w' hw'
    exact run_ldx _ rfl ((hC.out _ hw').2)
  try simp only [Act.put, List.setIfInBounds_toArray, List.set_cons_zero, List.set_cons_succ]
  refine wpAnyH_ready (rs := [11]) (by kernel_rfl) (by simp) ?_
  refine (AllReadyH.cons (o := { dst := some 100, op := Op.call { callee := Callee.value (Operand.func 13), args := #[Operand.tmp 99], argTypes := #[27] }, type := 3, pos := "law.go:116", after := #[{ on := 10, ground := Ground.data }, { on := 9, ground := Ground.chain }, { on := 9, ground := Ground.guard }], guard := some (9, true) }) rfl (fun K11 hK11 => ?_) AllReadyH.nil)
  go_simp
  refine (hL1.out _).mono ?_
  rintro e w4x ⟨rfl, B4⟩
  refine hK11.out _ _ (hD3.trans (B4.mono hD3.size)) (fun hD4 => ?_)
  clear hK11 K11
  try simp only [Act.put, List.setIfInBounds_toArray, List.set_cons_zero, List.set_cons_succ]
  refine wpAnyH_ready (rs := [13]) (by kernel_rfl) (by simp) ?_
  refine (AllReadyH.cons (o := { dst := some 102, op := Op.call { callee := Callee.value (Operand.func 13), args := #[Operand.tmp 101], argTypes := #[27] }, type := 3, pos := "law.go:116", after := #[{ on := 12, ground := Ground.data }, { on := 11, ground := Ground.chain }, { on := 9, ground := Ground.guard }], guard := some (9, true) }) rfl (fun K13 hK13 => ?_) AllReadyH.nil)
  go_simp
  refine (hL2.out _).mono ?_
  rintro e w5x ⟨rfl, B5⟩
  refine hK13.out _ _ (hD4.trans (B5.mono hD4.size)) (fun hD5 => ?_)
  clear hK13 K13
  try simp only [Act.put, List.setIfInBounds_toArray, List.set_cons_zero, List.set_cons_succ]
  refine wpAnyH_take (i := 14) (oi := { dst := some 103, op := Op.binOp BinOp.eql 3 (Operand.tmp 100) (Operand.tmp 102) 3, type := 4, pos := "law.go:116", after := #[{ on := 11, ground := Ground.data }, { on := 13, ground := Ground.data }, { on := 9, ground := Ground.guard }], guard := some (9, true) }) (v := ?_) rfl (by kernel_rfl) (by kernel_rfl) (by kernel_rfl) (fun _ _ _ h => h) (Or.inl ⟨by rfl, ?_⟩) hD5 ?_
  rotate_left
  · intro w' hw'
    clear hw'
    go_simp
    try with_reducible rfl
  try simp only [Act.put, List.setIfInBounds_toArray, List.set_cons_zero, List.set_cons_succ]
  refine wpAnyH_take (i := 15) (oi := { dst := some 104, op := Op.pick (Operand.tmp 98) (Operand.tmp 103) (Operand.const (Value.bool false)), type := 4, pos := "law.go:116", after := #[{ on := 9, ground := Ground.data }, { on := 14, ground := Ground.data }], guard := none }) (v := ?_) rfl (by kernel_rfl) (by kernel_rfl) (by kernel_rfl) (fun _ _ _ h => h) (Or.inl ⟨by rfl, ?_⟩) hD5 ?_
  rotate_left
  · intro w' hw'
    clear hw'
    go_simp
    try with_reducible rfl
  try simp only [Act.put, List.setIfInBounds_toArray, List.set_cons_zero, List.set_cons_succ]
  refine wpAnyH_take (i := 16) (oi := { dst := some 4, op := Op.assign (Operand.tmp 104), type := 4, pos := "law.go:116", after := #[{ on := 15, ground := Ground.data }, { on := 13, ground := Ground.chain }, { on := 0, ground := Ground.phase }, { on := 1, ground := Ground.phase }, { on := 2, ground := Ground.phase }, { on := 3, ground := Ground.phase }, { on := 4, ground := Ground.phase }, { on := 5, ground := Ground.phase }, { on := 6, ground := Ground.phase }, { on := 7, ground := Ground.phase }, { on := 8, ground := Ground.phase }, { on := 9, ground := Ground.phase }, { on := 10, ground := Ground.phase }, { on := 11, ground := Ground.phase }, { on := 12, ground := Ground.phase }, { on := 13, ground := Ground.phase }, { on := 14, ground := Ground.phase }, { on := 15, ground := Ground.phase }], guard := none }) (v := ?_) rfl (by kernel_rfl) (by kernel_rfl) (by kernel_rfl) (fun _ _ _ h => h) (Or.inl ⟨by rfl, ?_⟩) hD5 ?_
  rotate_left
  · intro w' hw'
    clear hw'
    go_simp
    try with_reducible rfl
  try simp only [Act.put, List.setIfInBounds_toArray, List.set_cons_zero, List.set_cons_succ]
  refine wpAnyH_done (by kernel_rfl) ?_ _
  refine NoPanic.normal ?_
  exact h.out _ _ _ _ _ _ _ hD5

end Go.Proofs.Ytbinnpadmajgpaa
