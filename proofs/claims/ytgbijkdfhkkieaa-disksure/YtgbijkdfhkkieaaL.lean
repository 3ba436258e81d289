/-
  Append, Write, Cut.
-/
import Derived.Test.YtgbijkdfhkkieaaK
namespace Go.Proofs.Ytgbijkdfhkkieaa
open Go.RowKit Go.Maps Go.Lib
set_option linter.unusedVariables false
set_option linter.unusedSimpArgs false
set_option maxHeartbeats 4000000 in
set_option maxRecDepth 100000 in
theorem reg30_6 (w : World) (d g : Nat) (n : Nat) (U S1 S2 : Int) (c6 : w.cell? ⟨d, 6, none⟩ = some (.int .i64 U)) (f6 : w.frozen? ⟨d, 6, none⟩ = false) (hw : IntKind.i64.wrap (S1 - S2) = S1 - S2) (hw2 : IntKind.i64.wrap (U - (S1 - S2)) = U - (S1 - S2)) (P1 : ∀ wx : World, wx = w.drew → Calls Try.prog 37 #[ptr g] wx fun e w' => e = .returned (.int .i64 S1) ∧ w' = wx) (P2 : ∀ wx : World, Calls Try.prog 61 #[.int .i64 (n : Int)] wx fun e w' => e = .returned (.int .i64 S2) ∧ w' = wx)
    (u1 u3 u4 u5 u6 u8 u9 u10 u11 u12 u13 u14 u15 u16 u17 u18 u19 u20 u21 u22 u23 u24 u25 u26 u27 u28 u29 u30 u31 u32 u33 u34 u35 u36 u37 u38 u39 u40 u41 u42 u43 u44 u45 u46 u47 : Value) (Q : Exit → Act → World → Prop)
    (h : ∀ w', w' = (w.setCell ⟨d, 6, none⟩ (.int .i64 (U - (S1 - S2)))).drew → Q .normal { tmps := (List.toArray ((.pointer (some ⟨d, 0, none⟩) :: u1 :: .int .i64 (n : Int) :: u3 :: u4 :: u5 :: u6 :: .pointer (some ⟨g, 0, none⟩) :: u8 :: u9 :: u10 :: u11 :: u12 :: u13 :: u14 :: u15 :: u16 :: u17 :: u18 :: u19 :: u20 :: u21 :: .pointer (some ⟨d, 0, none⟩) :: .pointer (some ⟨d, 0, none⟩) :: .pointer (some ⟨d, 6, none⟩) :: .int .i64 U :: .pointer (some ⟨g, 0, none⟩) :: .int .i64 S1 :: .int .i64 (n : Int) :: .int .i64 S2 :: .int .i64 (S1 - S2) :: .int .i64 (U - (S1 - S2)) :: .pointer (some ⟨d, 0, none⟩) :: .pointer (some ⟨d, 6, none⟩) :: u34 :: u35 :: u36 :: u37 :: u38 :: u39 :: u40 :: u41 :: u42 :: u43 :: u44 :: u45 :: u46 :: u47 :: []) : List Value)), defers := [] } w') :
    (Code.region 6 #[{ dst := some 22, op := Op.move (Operand.tmp 0), type := 26, pos := "disk.go:80", after := #[], guard := none }, { dst := some 23, op := Op.nilCheck (Operand.tmp 22), type := 0, pos := "disk.go:80", after := #[{ on := 0, ground := Ground.data }], guard := none }, { dst := some 24, op := Op.fieldAddr 64 (Operand.tmp 23) 4, type := 0, pos := "disk.go:80", after := #[{ on := 1, ground := Ground.data }], guard := none }, { dst := some 25, op := Op.load 3 (Operand.tmp 24), type := 3, pos := "disk.go:80", after := #[{ on := 2, ground := Ground.data }], guard := none }, { dst := some 26, op := Op.move (Operand.tmp 7), type := 73, pos := "disk.go:80", after := #[], guard := none }, { dst := some 27, op := Op.call { callee := Callee.value (Operand.func 37), args := #[Operand.tmp 26], argTypes := #[73] }, type := 3, pos := "disk.go:80", after := #[{ on := 4, ground := Ground.data }], guard := none }, { dst := some 28, op := Op.move (Operand.tmp 2), type := 3, pos := "disk.go:80", after := #[], guard := none }, { dst := some 29, op := Op.call { callee := Callee.value (Operand.func 61), args := #[Operand.tmp 28], argTypes := #[3] }, type := 3, pos := "disk.go:80", after := #[{ on := 6, ground := Ground.data }, { on := 5, ground := Ground.chain }], guard := none }, { dst := some 30, op := Op.binOp BinOp.sub 3 (Operand.tmp 27) (Operand.tmp 29) 3, type := 3, pos := "disk.go:80", after := #[{ on := 5, ground := Ground.data }, { on := 7, ground := Ground.data }], guard := none }, { dst := some 31, op := Op.binOp BinOp.sub 3 (Operand.tmp 25) (Operand.tmp 30) 3, type := 3, pos := "disk.go:80", after := #[{ on := 3, ground := Ground.data }, { on := 8, ground := Ground.data }], guard := none }, { dst := some 32, op := Op.nilCheck (Operand.tmp 22), type := 0, pos := "disk.go:80", after := #[{ on := 0, ground := Ground.data }, { on := 0, ground := Ground.phase }, { on := 1, ground := Ground.phase }, { on := 2, ground := Ground.phase }, { on := 3, ground := Ground.phase }, { on := 4, ground := Ground.phase }, { on := 5, ground := Ground.phase }, { on := 6, ground := Ground.phase }, { on := 7, ground := Ground.phase }, { on := 8, ground := Ground.phase }, { on := 9, ground := Ground.phase }], guard := none }, { dst := some 33, op := Op.fieldAddr 64 (Operand.tmp 32) 4, type := 0, pos := "disk.go:80", after := #[{ on := 10, ground := Ground.data }, { on := 0, ground := Ground.phase }, { on := 1, ground := Ground.phase }, { on := 2, ground := Ground.phase }, { on := 3, ground := Ground.phase }, { on := 4, ground := Ground.phase }, { on := 5, ground := Ground.phase }, { on := 6, ground := Ground.phase }, { on := 7, ground := Ground.phase }, { on := 8, ground := Ground.phase }, { on := 9, ground := Ground.phase }], guard := none }, { dst := none, op := Op.store 3 (Operand.tmp 33) (Operand.tmp 31), type := 0, pos := "disk.go:80", after := #[{ on := 11, ground := Ground.data }, { on := 9, ground := Ground.data }, { on := 7, ground := Ground.chain }, { on := 0, ground := Ground.phase }, { on := 1, ground := Ground.phase }, { on := 2, ground := Ground.phase }, { on := 3, ground := Ground.phase }, { on := 4, ground := Ground.phase }, { on := 5, ground := Ground.phase }, { on := 6, ground := Ground.phase }, { on := 7, ground := Ground.phase }, { on := 8, ground := Ground.phase }, { on := 9, ground := Ground.phase }], guard := none }] true).wp Try.prog Q { tmps := (List.toArray ((.pointer (some ⟨d, 0, none⟩) :: u1 :: .int .i64 (n : Int) :: u3 :: u4 :: u5 :: u6 :: .pointer (some ⟨g, 0, none⟩) :: u8 :: u9 :: u10 :: u11 :: u12 :: u13 :: u14 :: u15 :: u16 :: u17 :: u18 :: u19 :: u20 :: u21 :: u22 :: u23 :: u24 :: u25 :: u26 :: u27 :: u28 :: u29 :: u30 :: u31 :: u32 :: u33 :: u34 :: u35 :: u36 :: u37 :: u38 :: u39 :: u40 :: u41 :: u42 :: u43 :: u44 :: u45 :: u46 :: u47 :: []) : List Value)), defers := [] } w := by
  replace P1 := hide P1
  replace P2 := hide P2
  replace h := hide h
  refine wp_region_noPanic ?_
  refine wp_region_any (by kernel_rfl) ?_
  change wpAny _ _ _ _ _ _ _ (World.drew w)
  refine wpAny_take (i := 0) (oi := { dst := some 22, op := Op.move (Operand.tmp 0), type := 26, pos := "disk.go:80", after := #[], guard := none }) (v := ?_) rfl (by kernel_rfl) (by kernel_rfl) (by kernel_rfl) (fun _ _ _ h => h) (Or.inl ⟨by rfl, ?_⟩) ?_
  rotate_left
  · intro w'
    go_simp
    try with_reducible rfl
  try simp only [Act.put, List.setIfInBounds_toArray, List.set_cons_zero, List.set_cons_succ]
  refine wpAny_take (i := 1) (oi := { dst := some 23, op := Op.nilCheck (Operand.tmp 22), type := 0, pos := "disk.go:80", after := #[{ on := 0, ground := Ground.data }], guard := none }) (v := ?_) rfl (by kernel_rfl) (by kernel_rfl) (by kernel_rfl) (fun _ _ _ h => h) (Or.inl ⟨by rfl, ?_⟩) ?_
  rotate_left
  · intro w'
    go_simp
    try with_reducible rfl
  try simp only [Act.put, List.setIfInBounds_toArray, List.set_cons_zero, List.set_cons_succ]
  refine wpAny_take (i := 2) (oi := { dst := some 24, op := Op.fieldAddr 64 (Operand.tmp 23) 4, type := 0, pos := "disk.go:80", after := #[{ on := 1, ground := Ground.data }], guard := none }) (v := ?_) rfl (by kernel_rfl) (by kernel_rfl) (by kernel_rfl) (fun _ _ _ h => h) (Or.inl ⟨by rfl, ?_⟩) ?_
  rotate_left
  · intro w'
    go_simp
    try with_reducible rfl
  try simp only [Act.put, List.setIfInBounds_toArray, List.set_cons_zero, List.set_cons_succ]
  refine wpAny_take (i := 4) (oi := { dst := some 26, op := Op.move (Operand.tmp 7), type := 73, pos := "disk.go:80", after := #[], guard := none }) (v := ?_) rfl (by kernel_rfl) (by kernel_rfl) (by kernel_rfl) (fun _ _ _ h => h) (Or.inl ⟨by rfl, ?_⟩) ?_
  rotate_left
  · intro w'
    go_simp
    try with_reducible rfl
  try simp only [Act.put, List.setIfInBounds_toArray, List.set_cons_zero, List.set_cons_succ]
  refine wpAny_take (i := 6) (oi := { dst := some 28, op := Op.move (Operand.tmp 2), type := 3, pos := "disk.go:80", after := #[], guard := none }) (v := ?_) rfl (by kernel_rfl) (by kernel_rfl) (by kernel_rfl) (fun _ _ _ h => h) (Or.inl ⟨by rfl, ?_⟩) ?_
  rotate_left
  · intro w'
    go_simp
    try with_reducible rfl
  try simp only [Act.put, List.setIfInBounds_toArray, List.set_cons_zero, List.set_cons_succ]
  refine wpAny_ready (rs := [3, 5]) (by kernel_rfl) (by simp) ?_
  refine (AllReady.cons (o := { dst := some 25, op := Op.load 3 (Operand.tmp 24), type := 3, pos := "disk.go:80", after := #[{ on := 2, ground := Ground.data }], guard := none }) rfl (fun K3 hK3 => ?_) (AllReady.cons (o := { dst := some 27, op := Op.call { callee := Callee.value (Operand.func 37), args := #[Operand.tmp 26], argTypes := #[73] }, type := 3, pos := "disk.go:80", after := #[{ on := 4, ground := Ground.data }], guard := none }) rfl (fun K5 hK5 => ?_) AllReady.nil))
  · go_simp
    refine hK3 _ _ ?_
    clear hK3 K3
    try simp only [Act.put, List.setIfInBounds_toArray, List.set_cons_zero, List.set_cons_succ]
    refine wpAny_ready (rs := [5]) (by kernel_rfl) (by simp) ?_
    refine (AllReady.cons (o := { dst := some 27, op := Op.call { callee := Callee.value (Operand.func 37), args := #[Operand.tmp 26], argTypes := #[73] }, type := 3, pos := "disk.go:80", after := #[{ on := 4, ground := Ground.data }], guard := none }) rfl (fun K5 hK5 => ?_) AllReady.nil)
    go_simp
    refine (P1.out _ rfl).mono ?_
    rintro e wx ⟨rfl, rfl⟩
    refine hK5 _ _ ?_
    clear hK5 K5
    try simp only [Act.put, List.setIfInBounds_toArray, List.set_cons_zero, List.set_cons_succ]
    refine wpAny_ready (rs := [7]) (by kernel_rfl) (by simp) ?_
    refine (AllReady.cons (o := { dst := some 29, op := Op.call { callee := Callee.value (Operand.func 61), args := #[Operand.tmp 28], argTypes := #[3] }, type := 3, pos := "disk.go:80", after := #[{ on := 6, ground := Ground.data }, { on := 5, ground := Ground.chain }], guard := none }) rfl (fun K7 hK7 => ?_) AllReady.nil)
    go_simp
    refine (P2.out _).mono ?_
    rintro e wx ⟨rfl, rfl⟩
    refine hK7 _ _ ?_
    clear hK7 K7
    try simp only [Act.put, List.setIfInBounds_toArray, List.set_cons_zero, List.set_cons_succ]
    refine wpAny_take (i := 8) (oi := { dst := some 30, op := Op.binOp BinOp.sub 3 (Operand.tmp 27) (Operand.tmp 29) 3, type := 3, pos := "disk.go:80", after := #[{ on := 5, ground := Ground.data }, { on := 7, ground := Ground.data }], guard := none }) (v := ?_) rfl (by kernel_rfl) (by kernel_rfl) (by kernel_rfl) (fun _ _ _ h => h) (Or.inl ⟨by rfl, ?_⟩) ?_
    rotate_left
    · intro w'
      go_simp
      try with_reducible rfl
    try simp only [Act.put, List.setIfInBounds_toArray, List.set_cons_zero, List.set_cons_succ]
    refine wpAny_take (i := 9) (oi := { dst := some 31, op := Op.binOp BinOp.sub 3 (Operand.tmp 25) (Operand.tmp 30) 3, type := 3, pos := "disk.go:80", after := #[{ on := 3, ground := Ground.data }, { on := 8, ground := Ground.data }], guard := none }) (v := ?_) rfl (by kernel_rfl) (by kernel_rfl) (by kernel_rfl) (fun _ _ _ h => h) (Or.inl ⟨by rfl, ?_⟩) ?_
    rotate_left
    · intro w'
      go_simp
      try with_reducible rfl
    try simp only [Act.put, List.setIfInBounds_toArray, List.set_cons_zero, List.set_cons_succ]
    refine wpAny_take (i := 10) (oi := { dst := some 32, op := Op.nilCheck (Operand.tmp 22), type := 0, pos := "disk.go:80", after := #[{ on := 0, ground := Ground.data }, { on := 0, ground := Ground.phase }, { on := 1, ground := Ground.phase }, { on := 2, ground := Ground.phase }, { on := 3, ground := Ground.phase }, { on := 4, ground := Ground.phase }, { on := 5, ground := Ground.phase }, { on := 6, ground := Ground.phase }, { on := 7, ground := Ground.phase }, { on := 8, ground := Ground.phase }, { on := 9, ground := Ground.phase }], guard := none }) (v := ?_) rfl (by kernel_rfl) (by kernel_rfl) (by kernel_rfl) (fun _ _ _ h => h) (Or.inl ⟨by rfl, ?_⟩) ?_
    rotate_left
    · intro w'
      go_simp
      try with_reducible rfl
    try simp only [Act.put, List.setIfInBounds_toArray, List.set_cons_zero, List.set_cons_succ]
    refine wpAny_take (i := 11) (oi := { dst := some 33, op := Op.fieldAddr 64 (Operand.tmp 32) 4, type := 0, pos := "disk.go:80", after := #[{ on := 10, ground := Ground.data }, { on := 0, ground := Ground.phase }, { on := 1, ground := Ground.phase }, { on := 2, ground := Ground.phase }, { on := 3, ground := Ground.phase }, { on := 4, ground := Ground.phase }, { on := 5, ground := Ground.phase }, { on := 6, ground := Ground.phase }, { on := 7, ground := Ground.phase }, { on := 8, ground := Ground.phase }, { on := 9, ground := Ground.phase }], guard := none }) (v := ?_) rfl (by kernel_rfl) (by kernel_rfl) (by kernel_rfl) (fun _ _ _ h => h) (Or.inl ⟨by rfl, ?_⟩) ?_
    rotate_left
    · intro w'
      go_simp
      try with_reducible rfl
    try simp only [Act.put, List.setIfInBounds_toArray, List.set_cons_zero, List.set_cons_succ]
    refine wpAny_ready (rs := [12]) (by kernel_rfl) (by simp) ?_
    refine (AllReady.cons (o := { dst := none, op := Op.store 3 (Operand.tmp 33) (Operand.tmp 31), type := 0, pos := "disk.go:80", after := #[{ on := 11, ground := Ground.data }, { on := 9, ground := Ground.data }, { on := 7, ground := Ground.chain }, { on := 0, ground := Ground.phase }, { on := 1, ground := Ground.phase }, { on := 2, ground := Ground.phase }, { on := 3, ground := Ground.phase }, { on := 4, ground := Ground.phase }, { on := 5, ground := Ground.phase }, { on := 6, ground := Ground.phase }, { on := 7, ground := Ground.phase }, { on := 8, ground := Ground.phase }, { on := 9, ground := Ground.phase }], guard := none }) rfl (fun K12 hK12 => ?_) AllReady.nil)
    go_simp
    refine hK12 _ _ ?_
    clear hK12 K12
    try simp only [Act.put, List.setIfInBounds_toArray, List.set_cons_zero, List.set_cons_succ]
    refine wpAny_done (by kernel_rfl) ?_ _
    refine NoPanic.normal ?_
    exact h.out _ rfl
  · go_simp
    refine (P1.out _ rfl).mono ?_
    rintro e wx ⟨rfl, rfl⟩
    refine hK5 _ _ ?_
    clear hK5 K5
    try simp only [Act.put, List.setIfInBounds_toArray, List.set_cons_zero, List.set_cons_succ]
    refine wpAny_ready (rs := [3, 7]) (by kernel_rfl) (by simp) ?_
    refine (AllReady.cons (o := { dst := some 25, op := Op.load 3 (Operand.tmp 24), type := 3, pos := "disk.go:80", after := #[{ on := 2, ground := Ground.data }], guard := none }) rfl (fun K3 hK3 => ?_) (AllReady.cons (o := { dst := some 29, op := Op.call { callee := Callee.value (Operand.func 61), args := #[Operand.tmp 28], argTypes := #[3] }, type := 3, pos := "disk.go:80", after := #[{ on := 6, ground := Ground.data }, { on := 5, ground := Ground.chain }], guard := none }) rfl (fun K7 hK7 => ?_) AllReady.nil))
    · go_simp
      refine hK3 _ _ ?_
      clear hK3 K3
      try simp only [Act.put, List.setIfInBounds_toArray, List.set_cons_zero, List.set_cons_succ]
      refine wpAny_ready (rs := [7]) (by kernel_rfl) (by simp) ?_
      refine (AllReady.cons (o := { dst := some 29, op := Op.call { callee := Callee.value (Operand.func 61), args := #[Operand.tmp 28], argTypes := #[3] }, type := 3, pos := "disk.go:80", after := #[{ on := 6, ground := Ground.data }, { on := 5, ground := Ground.chain }], guard := none }) rfl (fun K7 hK7 => ?_) AllReady.nil)
      go_simp
      refine (P2.out _).mono ?_
      rintro e wx ⟨rfl, rfl⟩
      refine hK7 _ _ ?_
      clear hK7 K7
      try simp only [Act.put, List.setIfInBounds_toArray, List.set_cons_zero, List.set_cons_succ]
      refine wpAny_take (i := 8) (oi := { dst := some 30, op := Op.binOp BinOp.sub 3 (Operand.tmp 27) (Operand.tmp 29) 3, type := 3, pos := "disk.go:80", after := #[{ on := 5, ground := Ground.data }, { on := 7, ground := Ground.data }], guard := none }) (v := ?_) rfl (by kernel_rfl) (by kernel_rfl) (by kernel_rfl) (fun _ _ _ h => h) (Or.inl ⟨by rfl, ?_⟩) ?_
      rotate_left
      · intro w'
        go_simp
        try with_reducible rfl
      try simp only [Act.put, List.setIfInBounds_toArray, List.set_cons_zero, List.set_cons_succ]
      refine wpAny_take (i := 9) (oi := { dst := some 31, op := Op.binOp BinOp.sub 3 (Operand.tmp 25) (Operand.tmp 30) 3, type := 3, pos := "disk.go:80", after := #[{ on := 3, ground := Ground.data }, { on := 8, ground := Ground.data }], guard := none }) (v := ?_) rfl (by kernel_rfl) (by kernel_rfl) (by kernel_rfl) (fun _ _ _ h => h) (Or.inl ⟨by rfl, ?_⟩) ?_
      rotate_left
      · intro w'
        go_simp
        try with_reducible rfl
      try simp only [Act.put, List.setIfInBounds_toArray, List.set_cons_zero, List.set_cons_succ]
      refine wpAny_take (i := 10) (oi := { dst := some 32, op := Op.nilCheck (Operand.tmp 22), type := 0, pos := "disk.go:80", after := #[{ on := 0, ground := Ground.data }, { on := 0, ground := Ground.phase }, { on := 1, ground := Ground.phase }, { on := 2, ground := Ground.phase }, { on := 3, ground := Ground.phase }, { on := 4, ground := Ground.phase }, { on := 5, ground := Ground.phase }, { on := 6, ground := Ground.phase }, { on := 7, ground := Ground.phase }, { on := 8, ground := Ground.phase }, { on := 9, ground := Ground.phase }], guard := none }) (v := ?_) rfl (by kernel_rfl) (by kernel_rfl) (by kernel_rfl) (fun _ _ _ h => h) (Or.inl ⟨by rfl, ?_⟩) ?_
      rotate_left
      · intro w'
        go_simp
        try with_reducible rfl
      try simp only [Act.put, List.setIfInBounds_toArray, List.set_cons_zero, List.set_cons_succ]
      refine wpAny_take (i := 11) (oi := { dst := some 33, op := Op.fieldAddr 64 (Operand.tmp 32) 4, type := 0, pos := "disk.go:80", after := #[{ on := 10, ground := Ground.data }, { on := 0, ground := Ground.phase }, { on := 1, ground := Ground.phase }, { on := 2, ground := Ground.phase }, { on := 3, ground := Ground.phase }, { on := 4, ground := Ground.phase }, { on := 5, ground := Ground.phase }, { on := 6, ground := Ground.phase }, { on := 7, ground := Ground.phase }, { on := 8, ground := Ground.phase }, { on := 9, ground := Ground.phase }], guard := none }) (v := ?_) rfl (by kernel_rfl) (by kernel_rfl) (by kernel_rfl) (fun _ _ _ h => h) (Or.inl ⟨by rfl, ?_⟩) ?_
      rotate_left
      · intro w'
        go_simp
        try with_reducible rfl
      try simp only [Act.put, List.setIfInBounds_toArray, List.set_cons_zero, List.set_cons_succ]
      refine wpAny_ready (rs := [12]) (by kernel_rfl) (by simp) ?_
      refine (AllReady.cons (o := { dst := none, op := Op.store 3 (Operand.tmp 33) (Operand.tmp 31), type := 0, pos := "disk.go:80", after := #[{ on := 11, ground := Ground.data }, { on := 9, ground := Ground.data }, { on := 7, ground := Ground.chain }, { on := 0, ground := Ground.phase }, { on := 1, ground := Ground.phase }, { on := 2, ground := Ground.phase }, { on := 3, ground := Ground.phase }, { on := 4, ground := Ground.phase }, { on := 5, ground := Ground.phase }, { on := 6, ground := Ground.phase }, { on := 7, ground := Ground.phase }, { on := 8, ground := Ground.phase }, { on := 9, ground := Ground.phase }], guard := none }) rfl (fun K12 hK12 => ?_) AllReady.nil)
      go_simp
      refine hK12 _ _ ?_
      clear hK12 K12
      try simp only [Act.put, List.setIfInBounds_toArray, List.set_cons_zero, List.set_cons_succ]
      refine wpAny_done (by kernel_rfl) ?_ _
      refine NoPanic.normal ?_
      exact h.out _ rfl
    · go_simp
      refine (P2.out _).mono ?_
      rintro e wx ⟨rfl, rfl⟩
      refine hK7 _ _ ?_
      clear hK7 K7
      try simp only [Act.put, List.setIfInBounds_toArray, List.set_cons_zero, List.set_cons_succ]
      refine wpAny_take (i := 8) (oi := { dst := some 30, op := Op.binOp BinOp.sub 3 (Operand.tmp 27) (Operand.tmp 29) 3, type := 3, pos := "disk.go:80", after := #[{ on := 5, ground := Ground.data }, { on := 7, ground := Ground.data }], guard := none }) (v := ?_) rfl (by kernel_rfl) (by kernel_rfl) (by kernel_rfl) (fun _ _ _ h => h) (Or.inl ⟨by rfl, ?_⟩) ?_
      rotate_left
      · intro w'
        go_simp
        try with_reducible rfl
      try simp only [Act.put, List.setIfInBounds_toArray, List.set_cons_zero, List.set_cons_succ]
      refine wpAny_ready (rs := [3]) (by kernel_rfl) (by simp) ?_
      refine (AllReady.cons (o := { dst := some 25, op := Op.load 3 (Operand.tmp 24), type := 3, pos := "disk.go:80", after := #[{ on := 2, ground := Ground.data }], guard := none }) rfl (fun K3 hK3 => ?_) AllReady.nil)
      go_simp
      refine hK3 _ _ ?_
      clear hK3 K3
      try simp only [Act.put, List.setIfInBounds_toArray, List.set_cons_zero, List.set_cons_succ]
      refine wpAny_take (i := 9) (oi := { dst := some 31, op := Op.binOp BinOp.sub 3 (Operand.tmp 25) (Operand.tmp 30) 3, type := 3, pos := "disk.go:80", after := #[{ on := 3, ground := Ground.data }, { on := 8, ground := Ground.data }], guard := none }) (v := ?_) rfl (by kernel_rfl) (by kernel_rfl) (by kernel_rfl) (fun _ _ _ h => h) (Or.inl ⟨by rfl, ?_⟩) ?_
      rotate_left
      · intro w'
        go_simp
        try with_reducible rfl
      try simp only [Act.put, List.setIfInBounds_toArray, List.set_cons_zero, List.set_cons_succ]
      refine wpAny_take (i := 10) (oi := { dst := some 32, op := Op.nilCheck (Operand.tmp 22), type := 0, pos := "disk.go:80", after := #[{ on := 0, ground := Ground.data }, { on := 0, ground := Ground.phase }, { on := 1, ground := Ground.phase }, { on := 2, ground := Ground.phase }, { on := 3, ground := Ground.phase }, { on := 4, ground := Ground.phase }, { on := 5, ground := Ground.phase }, { on := 6, ground := Ground.phase }, { on := 7, ground := Ground.phase }, { on := 8, ground := Ground.phase }, { on := 9, ground := Ground.phase }], guard := none }) (v := ?_) rfl (by kernel_rfl) (by kernel_rfl) (by kernel_rfl) (fun _ _ _ h => h) (Or.inl ⟨by rfl, ?_⟩) ?_
      rotate_left
      · intro w'
        go_simp
        try with_reducible rfl
      try simp only [Act.put, List.setIfInBounds_toArray, List.set_cons_zero, List.set_cons_succ]
      refine wpAny_take (i := 11) (oi := { dst := some 33, op := Op.fieldAddr 64 (Operand.tmp 32) 4, type := 0, pos := "disk.go:80", after := #[{ on := 10, ground := Ground.data }, { on := 0, ground := Ground.phase }, { on := 1, ground := Ground.phase }, { on := 2, ground := Ground.phase }, { on := 3, ground := Ground.phase }, { on := 4, ground := Ground.phase }, { on := 5, ground := Ground.phase }, { on := 6, ground := Ground.phase }, { on := 7, ground := Ground.phase }, { on := 8, ground := Ground.phase }, { on := 9, ground := Ground.phase }], guard := none }) (v := ?_) rfl (by kernel_rfl) (by kernel_rfl) (by kernel_rfl) (fun _ _ _ h => h) (Or.inl ⟨by rfl, ?_⟩) ?_
      rotate_left
      · intro w'
        go_simp
        try with_reducible rfl
      try simp only [Act.put, List.setIfInBounds_toArray, List.set_cons_zero, List.set_cons_succ]
      refine wpAny_ready (rs := [12]) (by kernel_rfl) (by simp) ?_
      refine (AllReady.cons (o := { dst := none, op := Op.store 3 (Operand.tmp 33) (Operand.tmp 31), type := 0, pos := "disk.go:80", after := #[{ on := 11, ground := Ground.data }, { on := 9, ground := Ground.data }, { on := 7, ground := Ground.chain }, { on := 0, ground := Ground.phase }, { on := 1, ground := Ground.phase }, { on := 2, ground := Ground.phase }, { on := 3, ground := Ground.phase }, { on := 4, ground := Ground.phase }, { on := 5, ground := Ground.phase }, { on := 6, ground := Ground.phase }, { on := 7, ground := Ground.phase }, { on := 8, ground := Ground.phase }, { on := 9, ground := Ground.phase }], guard := none }) rfl (fun K12 hK12 => ?_) AllReady.nil)
      go_simp
      refine hK12 _ _ ?_
      clear hK12 K12
      try simp only [Act.put, List.setIfInBounds_toArray, List.set_cons_zero, List.set_cons_succ]
      refine wpAny_done (by kernel_rfl) ?_ _
      refine NoPanic.normal ?_
      exact h.out _ rfl
section
variable {w w' : World} {d bf bs : Nat} {m : M} {T : Nat → Prop} {V : Nat → Value × Value}
/-- Bytes outside of what is turned stay. -/
theorem Has.but {ab : Option Addr} {lb cb : Nat} {B : List Int} (h : Has w ab lb cb B) {S : Nat → Prop} (hb : But S w w') (hS : ∀ k, (Value.slice ab lb cb).ownBlock = some k → ¬ S k) : Has w' ab lb cb B := by
  refine ⟨h.hlen, h.le, h.capb, h.nil, fun hp => ?_, h.bytes⟩
  obtain ⟨b, off, e1, e2, e3⟩ := h.cells hp
  refine ⟨b, off, e1, Nat.lt_of_lt_of_le e2 hb.size, fun i hi => ?_⟩
  have hk : w'.heap[b]? = w.heap[b]? := hb.block b e2 (hS b (by rw [e1]; rfl))
  rw [← e3 i hi]
  unfold World.cell?
  simp only [hk]
theorem Has.but2 {ab : Option Addr} {lb cb : Nat} {B : List Int} (h : Has w ab lb cb B) {S : Nat → Prop} (hb : But S w w') (hS : 0 < lb → ∀ k, (Value.slice ab lb cb).ownBlock = some k → ¬ S k) : Has w' ab lb cb B := by
  refine ⟨h.hlen, h.le, h.capb, h.nil, fun hp => ?_, h.bytes⟩
  obtain ⟨b, off, e1, e2, e3⟩ := h.cells hp
  refine ⟨b, off, e1, Nat.lt_of_lt_of_le e2 hb.size, fun i hi => ?_⟩
  have hk : w'.heap[b]? = w.heap[b]? := hb.block b e2 (hS hp b (by rw [e1]; rfl))
  rw [← e3 i hi]
  unfold World.cell?
  simp only [hk]
set_option maxHeartbeats 2000000 in
set_option maxRecDepth 100000 in
theorem append_any (h : Disk w d m T) (hm : Sm m) (s : ByteArray) {ab : Option Addr} {lb cb : Nat} {B : List Int} (hB : Has w ab lb cb B) (hlb : lb ≤ 1073741824) (hT : 0 < lb → ∀ k, (Value.slice ab lb cb).ownBlock = some k → ¬ T k) :
    Calls Try.prog 13 #[ptr d, .string s, .slice ab lb cb] w (Res w d T (Fs m s fun g => Pt (pw m) g ((pw m).ct g).1.length B)) := by
  obtain ⟨bf, bs, V, h⟩ := h
  have hp := hide hm.pw
  have hDk := hide h
  clear h
  replace hB := hide hB
  go_enter Try.func13, Try.ntmps13
  go_wp2_with fail
  refine (beginWith_any hDk.out s).mono ?_
  rintro e w1 ⟨b1, ⟨g, hF, hg, rfl, D1⟩ | ⟨r, hr, rfl, hF, m', hm', D1⟩⟩
  · replace b1 := hide (hDk.out.toT b1)
    have hg1 : g ∈ (pw m).ids := by rw [(pw_same m).2.2.1]; exact hg
    have HB1 : Has w1 ab lb cb B := hB.out.but2 b1.out hT
    replace hF := hide hF
    obtain ⟨a, c, e1, H1⟩ := D1.has1 hg1
    obtain ⟨c0, c1⟩ := D1.fc hg1
    rw [e1] at c0
    have P := hide (put_any D1 hp.out hg1 (Nat.le_refl _) HB1 hlb)
    clear e1 H1 HB1
    go_wp2_with fail
    refine P.out.mono ?_
    rintro e w2 ⟨r, m', T', rfl, D2, u2, hP⟩
    replace D2 := hide D2
    replace u2 := hide u2
    replace hP := hide hP
    clear D1
    go_wp2_with fail
    go_ret
    exact ⟨r, m', T', rfl, D2.out, (up_same b1.out).trans u2.out, .inl ⟨g, hF.out, hg, hP.out⟩⟩
  · replace b1 := hide (hDk.out.toT b1)
    have hr1 : (r != 0) = true := by simpa using hr
    have hr2 : (r == 0) = false := by simpa using hr
    replace hF := hide hF
    replace D1 := hide D1
    replace hm' := hide hm'
    replace hr := hide hr
    go_wp2_with fail
    go_ret
    exact ⟨r, m', T, rfl, ⟨bf, bs, V, D1.out⟩, up_same b1.out, .inr ⟨hr.out, hF.out, hm'.out⟩⟩
set_option maxHeartbeats 2000000 in
set_option maxRecDepth 100000 in
theorem write_any (h : Disk w d m T) (hm : Sm m) (s : ByteArray) (n : Int) {ab : Option Addr} {lb cb : Nat} {B : List Int} (hB : Has w ab lb cb B) (hlb : lb ≤ 1073741824) (hT : 0 < lb → ∀ k, (Value.slice ab lb cb).ownBlock = some k → ¬ T k) :
    Calls Try.prog 25 #[ptr d, .string s, .int .i64 n, .slice ab lb cb] w (Res w d T (Fs m s fun g r m' => (¬ (0 ≤ n ∧ n ≤ (((pw m).ct g).1.length : Int)) ∧ r = 2 ∧ m' = pw m) ∨ ∃ p : Nat, n = (p : Int) ∧ p ≤ ((pw m).ct g).1.length ∧ Pt (pw m) g p B r m')) := by
  obtain ⟨bf, bs, V, h⟩ := h
  have hp := hide hm.pw
  have hDk := hide h
  clear h
  replace hB := hide hB
  go_enter Try.func25, Try.ntmps25
  go_wp2_with fail
  refine (beginWith_any hDk.out s).mono ?_
  rintro e w1 ⟨b1, ⟨g, hF, hg, rfl, D1⟩ | ⟨r, hr, rfl, hF, m', hm', D1⟩⟩
  · replace b1 := hide (hDk.out.toT b1)
    have hg1 : g ∈ (pw m).ids := by rw [(pw_same m).2.2.1]; exact hg
    have HB1 : Has w1 ab lb cb B := hB.out.but2 b1.out hT
    replace hF := hide hF
    by_cases hn : 0 ≤ n ∧ n ≤ (((pw m).ct g).1.length : Int)
    · have hdn : decide (0 ≤ n ∧ n ≤ (((pw m).ct g).1.length : Int)) = true := decide_eq_true hn
      obtain ⟨p, rfl⟩ : ∃ p : Nat, n = (p : Int) := ⟨n.toNat, by omega⟩
      have hpl : p ≤ ((pw m).ct g).1.length := by omega
      have P := hide (put_any D1 hp.out hg1 hpl HB1 hlb)
      clear HB1 hn
      go_wp2_with fail
      refine (fhas_any D1 hg1 _).mono ?_
      rintro e w' ⟨rfl, hw⟩; replace hw := hw.symm; subst hw
      rw [hdn]
      replace hdn := hide hdn
      go_wp2_with fail
      refine P.out.mono ?_
      rintro e w2 ⟨r, m', T', rfl, D2, u2, hP⟩
      replace D2 := hide D2
      replace u2 := hide u2
      replace hP := hide hP
      clear D1
      go_wp2_with fail
      go_ret
      exact ⟨r, m', T', rfl, D2.out, (up_same b1.out).trans u2.out, .inl ⟨g, hF.out, hg, .inr ⟨p, rfl, hpl, hP.out⟩⟩⟩
    · have hdn : decide (0 ≤ n ∧ n ≤ (((pw m).ct g).1.length : Int)) = false := decide_eq_false hn
      replace hn := hide hn
      go_wp2_with fail
      refine (fhas_any D1 hg1 _).mono ?_
      rintro e w' ⟨rfl, hw⟩; replace hw := hw.symm; subst hw
      rw [hdn]
      replace hdn := hide hdn
      replace D1 := hide D1
      go_wp2_with fail
      go_ret
      exact ⟨2, pw m, T, rfl, ⟨bf, bs, V, D1.out⟩, up_same b1.out, .inl ⟨g, hF.out, hg, .inl ⟨hn.out, rfl, rfl⟩⟩⟩
  · replace b1 := hide (hDk.out.toT b1)
    have hr1 : (r != 0) = true := by simpa using hr
    have hr2 : (r == 0) = false := by simpa using hr
    replace hF := hide hF
    replace D1 := hide D1
    replace hm' := hide hm'
    replace hr := hide hr
    go_wp2_with fail
    go_ret
    exact ⟨r, m', T, rfl, ⟨bf, bs, V, D1.out⟩, up_same b1.out, .inr ⟨hr.out, hF.out, hm'.out⟩⟩
def cutm (m : M) (g p : Nat) : M := dn { pw m with used := (pw m).used - ((sec ((pw m).ct g).1.length : Int) - (sec p : Int)), ct := upd (pw m).ct g (((pw m).ct g).1.take p, ((pw m).ct g).2) }
set_option maxHeartbeats 4000000 in
set_option maxRecDepth 100000 in
theorem cut_any (h : Disk w d m T) (hm : Sm m) (s : ByteArray) (n : Int) :
    Calls Try.prog 30 #[ptr d, .string s, .int .i64 n] w (Res w d T (Fs m s fun g r m' => (¬ (0 ≤ n ∧ n ≤ (((pw m).ct g).1.length : Int)) ∧ r = 2 ∧ m' = pw m) ∨ ∃ p : Nat, n = (p : Int) ∧ p ≤ ((pw m).ct g).1.length ∧ r = 0 ∧ m' = cutm m g p)) := by
  obtain ⟨bf, bs, V, h⟩ := h
  have hp := hide hm.pw
  have hDk := hide h
  clear h
  go_enter Try.func30, Try.ntmps30
  go_wp2_with fail
  refine (beginWith_any hDk.out s).mono ?_
  rintro e w1 ⟨b1, ⟨g, hF, hg, rfl, D1⟩ | ⟨r, hr, rfl, hF, m', hm', D1⟩⟩
  · replace b1 := hide (hDk.out.toT b1)
    have hg1 : g ∈ (pw m).ids := by rw [(pw_same m).2.2.1]; exact hg
    replace hF := hide hF
    by_cases hn : 0 ≤ n ∧ n ≤ (((pw m).ct g).1.length : Int)
    · have hdn : decide (0 ≤ n ∧ n ≤ (((pw m).ct g).1.length : Int)) = true := decide_eq_true hn
      obtain ⟨p, rfl⟩ : ∃ p : Nat, n = (p : Int) := ⟨n.toNat, by omega⟩
      have hpl : p ≤ ((pw m).ct g).1.length := by omega
      have hL := (hp.out.hc g hg1).1
      obtain ⟨S1, hS1⟩ : ∃ S1, S1 = sec ((pw m).ct g).1.length := ⟨_, rfl⟩
      obtain ⟨S2, hS2⟩ : ∃ S2, S2 = sec p := ⟨_, rfl⟩
      have hS14 : S1 ≤ 4194304 := by rw [hS1]; exact sec_le hL
      have hS24 : S2 ≤ 4194304 := by rw [hS2]; exact sec_le (by omega)
      have P1 : Hid (∀ wx : World, wx = w1.drew → Calls Try.prog 37 #[ptr g] wx fun e w' => e = .returned (.int .i64 (S1 : Int)) ∧ w' = wx) := by
        rintro wx rfl
        rw [hS1]
        exact fsec_any D1.drew hg1 (by omega)
      have P2 : Hid (∀ wx : World, Calls Try.prog 61 #[.int .i64 (p : Int)] wx fun e w' => e = .returned (.int .i64 (S2 : Int)) ∧ w' = wx) := fun wx => by rw [hS2]; exact sectors_any p wx (by omega)
      have hw1 : Hid (IntKind.i64.wrap ((S1 : Int) - (S2 : Int)) = (S1 : Int) - (S2 : Int)) := wrapi _ (by omega)
      have hw2 : Hid (IntKind.i64.wrap ((pw m).used - ((S1 : Int) - (S2 : Int))) = (pw m).used - ((S1 : Int) - (S2 : Int))) := wrapi _ (by have := hp.out.hu; omega)
      obtain ⟨c0, c1, c2, c3, c4, c5, c6⟩ := D1.cs
      have f6 := D1.dk.fz 6
      replace hS1 := hide hS1
      replace hS2 := hide hS2
      have DD := hide (D1.disk (m' := { pw m with used := (pw m).used - ((S1 : Int) - (S2 : Int)) }) (but_setCell w1 d 6 (.int .i64 ((pw m).used - ((S1 : Int) - (S2 : Int))))) (D1.dk.set1 6 _) rfl rfl rfl rfl rfl).drew
      have bb := hide (((b1.out.setCell (p := ⟨d, 6, none⟩) (fun _ => hDk.out.td) (.int .i64 ((pw m).used - ((S1 : Int) - (S2 : Int)))))).drew)
      clear hn
      go_wp2_with fail
      refine (fhas_any D1 hg1 _).mono ?_
      rintro e w' ⟨rfl, hw⟩; replace hw := hw.symm; subst hw
      rw [hdn]
      replace hdn := hide hdn
      clear D1
      go_wp2_with fail
      refine reg30_6 w1 d g p (pw m).used (S1 : Int) (S2 : Int) c6 f6 hw1.out hw2.out P1.out P2.out _ _ _ _ _ _ _ _ _ _ _ _ _ _ _ _ _ _ _ _ _ _ _ _ _ _ _ _ _ _ _ _ _ _ _ _ _ _ _ _ _ _ _ _ _ _ ?_
      rintro w2 hw2'
      rw [← hw2'] at DD bb
      clear hw2' c0 c1 c2 c3 c4 c5 c6 f6 P1 P2 hw1 hw2
      obtain ⟨a, c, e1, H1⟩ := DD.out.has1 hg1
      obtain ⟨q0, q1⟩ := DD.out.fc hg1
      rw [e1] at q0
      have H2 := hide (H1.front p hpl)
      have hpc : p ≤ c := Nat.le_trans hpl H1.le
      have rh := fun w => run_h w a ((pw m).ct g).1.length c p hpc
      have C := hide (clone_any w2 a p c _ H2.out (by omega))
      replace e1 := hide e1
      replace H1 := hide H1
      go_wp2_with fail
      refine C.out.mono ?_
      rintro e w3 ⟨a2, n2, c2, rfl, H3, B3, O3⟩
      have hn2 : (((pw m).ct g).1.take p).length = n2 := H3.hlen
      have D3 := DD.out.below B3
      have X3 := (D3.fl g hg1).1
      have f0 := X3.fz 0
      have t0 : w3.cell? ⟨g, 0, none⟩ = some (V g).1 := X3.cell 0
      rw [e1.out] at t0
      have nb : ∀ k, (Value.slice a2 n2 c2).ownBlock = some k → w2.heap.size ≤ k := fun k hk => (O3.lt k hk).1
      have O4 : (w3.setCell ⟨g, 0, none⟩ (.slice a2 n2 c2)).ownsRow 0 5 1 (.slice a2 n2 c2) (((pw m).ct g).1.take p).length (u8s (((pw m).ct g).1.take p)) := by
        rw [hn2]
        refine owns_of_block (owns_mono O3 (Nat.zero_le _)) (fun k hk => Below.heap_setCell w3 _ _ k (fun e => ?_))
        have h1 := nb k hk
        have h2 := (DD.out.fl g hg1).1.lt
        have h3 : k = g := e
        omega
      have D4 := hide (DD.out.file hg1 (w' := w3.setCell ⟨g, 0, none⟩ (.slice a2 n2 c2)) (v1 := .slice a2 n2 c2) (v2 := (V g).2) (l1 := ((pw m).ct g).1.take p) (l2 := ((pw m).ct g).2)
        (((But.of_below B3 _).trans (but_setCell w3 g 0 _) (fun _ _ e => .inl e)))
        ((file_set w3 X3 _).1) O4 (owns_of_block (D3.fl g hg1).2.2 (fun k hk => Below.heap_setCell w3 _ _ k (fun e => has_ne_of_row (D3.fl g hg1).2.2 X3 hk e)))
        (fun x hx => (DD.out.byt g hg1).1 x (List.mem_of_mem_take hx)) (DD.out.byt g hg1).2 (fun k hk => .inr (nb k hk)) (fun k hk => .inl hk) (fun k hk hk2 => by
          have h1 := nb k hk
          have h2 := ((DD.out.fl g hg1).2.2.lt k hk2).2
          omega))
      have b4 : Hid (But T w (w3.setCell ⟨g, 0, none⟩ (.slice a2 n2 c2))) := (bb.out.trans (But.of_below B3 T) (fun _ _ e => e)).setCell (fun _ => (DD.out.ti g hg1).1) _
      have own4 : Hid (∀ x, nw T w2 (w3.setCell ⟨g, 0, none⟩ (.slice a2 n2 c2)) x → T x ∨ w.heap.size ≤ x) := fun x hx => by
        rcases hx with hx | hx
        · exact .inl hx
        · exact .inr (Nat.le_trans bb.out.size hx.1)
      clear C H3 B3 O3 D3 O4 nb H1 e1 DD X3 hn2 q0 q1 H2 rh
      go_wp2_with fail
      refine (done_any D4.out hp.out.hl hp.out.hs).mono ?_
      rintro e w5 ⟨rfl, D5, b5⟩
      replace b5 := hide (b4.out.trans (hDk.out.toT b5) (fun _ _ e => e))
      replace D5 := hide D5
      clear D4
      go_wp2_with fail
      go_ret
      refine ⟨0, _, _, rfl, ⟨bf, bs, _, D5.out⟩, ⟨b5.out, own4.out⟩, .inl ⟨g, hF.out, hg, .inr ⟨p, rfl, hpl, rfl, ?_⟩⟩⟩
      unfold cutm
      rw [← hS1.out, ← hS2.out]
    · have hdn : decide (0 ≤ n ∧ n ≤ (((pw m).ct g).1.length : Int)) = false := decide_eq_false hn
      replace hn := hide hn
      go_wp2_with fail
      refine (fhas_any D1 hg1 _).mono ?_
      rintro e w' ⟨rfl, hw⟩; replace hw := hw.symm; subst hw
      rw [hdn]
      replace hdn := hide hdn
      replace D1 := hide D1
      go_wp2_with fail
      go_ret
      exact ⟨2, pw m, T, rfl, ⟨bf, bs, V, D1.out⟩, up_same b1.out, .inl ⟨g, hF.out, hg, .inl ⟨hn.out, rfl, rfl⟩⟩⟩
  · replace b1 := hide (hDk.out.toT b1)
    have hr1 : (r != 0) = true := by simpa using hr
    have hr2 : (r == 0) = false := by simpa using hr
    replace hF := hide hF
    replace D1 := hide D1
    replace hm' := hide hm'
    replace hr := hide hr
    go_wp2_with fail
    go_ret
    exact ⟨r, m', T, rfl, ⟨bf, bs, V, D1.out⟩, up_same b1.out, .inr ⟨hr.out, hF.out, hm'.out⟩⟩
end
end Go.Proofs.Ytgbijkdfhkkieaa
