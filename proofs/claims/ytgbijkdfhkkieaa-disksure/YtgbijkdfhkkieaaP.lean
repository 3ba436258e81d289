/-
  A crash of a file.
-/
import Derived.Test.YtgbijkdfhkkieaaO
namespace Go.Proofs.Ytgbijkdfhkkieaa
open Go.RowKit Go.Maps Go.Lib
set_option linter.unusedVariables false
set_option linter.unusedSimpArgs false
theorem run_lh (w : World) (r sz p e : Nat) (h1 : p < sz) (h2 : p ≤ e) (h3 : e ≤ sz) : (Instr.sliceAt 23 (.slice (some ⟨r, 0, none⟩) sz sz) (some (.int .i64 (p : Int))) (some (.int .i64 (e : Int))) none).run Try.prog w = .ok (.slice (some ⟨r, p, none⟩) (e - p) (sz - p)) w := by
  have i1 : (p : Int) ≤ (e : Int) := by omega
  have i2 : (e : Int) ≤ (sz : Int) := by omega
  have i3 : ¬ (sz = p) := by omega
  have hz : (Try.prog.info? 5).map (·.size) = some 1 := by
    obtain ⟨i0, hi, hz0, hz1, hz2⟩ := info_parts info5
    simp [hi, hz1]
  simp [go_sem, i1, i2, i3, add_plain]
set_option maxHeartbeats 4000000 in
set_option maxRecDepth 100000 in
theorem reg36_4 (w : World) (g sz : Nat) (a1 a2 : Option Addr) (n1 n2 c1 c2 : Nat) (f0 : w.cell? ⟨g, 0, none⟩ = some (.slice a1 n1 c1)) (f1 : w.cell? ⟨g, 1, none⟩ = some (.slice a2 n2 c2)) (A1 : Nat → World → Prop) (A2 : Nat → Nat → World → Prop) (P1 : ∀ wx : World, wx = w.drew → Calls Try.prog 66 #[.slice a1 n1 c1, .int .i64 (sz : Int)] wx fun e w' => ∃ x1, e = .returned (.slice (some ⟨x1, 0, none⟩) sz sz) ∧ A1 x1 w' ∧ w'.cell? ⟨g, 1, none⟩ = some (.slice a2 n2 c2)) (P2 : ∀ (x1 : Nat) (wx : World), A1 x1 wx → Calls Try.prog 66 #[.slice a2 n2 c2, .int .i64 (sz : Int)] wx fun e w' => ∃ x2, e = .returned (.slice (some ⟨x2, 0, none⟩) sz sz) ∧ A2 x1 x2 w')
    (u1 u2 u3 u5 u6 u7 u8 u9 u10 u11 u12 u13 u14 u15 u16 u17 u18 u19 u20 u21 u22 u23 u24 u25 u26 u27 u28 u29 u30 u31 u32 u33 u34 u35 u36 u37 u38 u39 u40 u41 u42 u43 u44 u45 u46 u47 u48 u49 u50 u51 u52 u53 u54 u55 u56 u57 u58 u59 u60 u61 u62 u63 u64 u65 u66 u67 u68 u69 u70 : Value) (Q : Exit → Act → World → Prop)
    (h : ∀ x1 x2 w', A2 x1 x2 w' → Q .normal { tmps := (List.toArray ((.pointer (some ⟨g, 0, none⟩) :: u1 :: u2 :: u3 :: .int .i64 (sz : Int) :: u5 :: .slice (some ⟨x1, 0, none⟩) sz sz :: .slice (some ⟨x2, 0, none⟩) sz sz :: u8 :: u9 :: u10 :: u11 :: u12 :: u13 :: u14 :: u15 :: u16 :: u17 :: u18 :: u19 :: u20 :: u21 :: u22 :: u23 :: u24 :: u25 :: u26 :: u27 :: u28 :: u29 :: u30 :: .pointer (some ⟨g, 0, none⟩) :: .pointer (some ⟨g, 0, none⟩) :: .pointer (some ⟨g, 0, none⟩) :: .slice a1 n1 c1 :: .int .i64 (sz : Int) :: .slice (some ⟨x1, 0, none⟩) sz sz :: .pointer (some ⟨g, 0, none⟩) :: .pointer (some ⟨g, 0, none⟩) :: .pointer (some ⟨g, 1, none⟩) :: .slice a2 n2 c2 :: .int .i64 (sz : Int) :: .slice (some ⟨x2, 0, none⟩) sz sz :: u43 :: u44 :: u45 :: u46 :: u47 :: u48 :: u49 :: u50 :: u51 :: u52 :: u53 :: u54 :: u55 :: u56 :: u57 :: u58 :: u59 :: u60 :: u61 :: u62 :: u63 :: u64 :: u65 :: u66 :: u67 :: u68 :: u69 :: u70 :: []) : List Value)), defers := [] } w') :
    (Code.region 4 #[{ dst := some 31, op := Op.move (Operand.tmp 0), type := 73, pos := "file.go:34", after := #[], guard := none }, { dst := some 32, op := Op.nilCheck (Operand.tmp 31), type := 0, pos := "file.go:34", after := #[{ on := 0, ground := Ground.data }], guard := none }, { dst := some 33, op := Op.fieldAddr 82 (Operand.tmp 32) 0, type := 0, pos := "file.go:34", after := #[{ on := 1, ground := Ground.data }], guard := none }, { dst := some 34, op := Op.load 23 (Operand.tmp 33), type := 23, pos := "file.go:34", after := #[{ on := 2, ground := Ground.data }], guard := none }, { dst := some 35, op := Op.move (Operand.tmp 4), type := 3, pos := "file.go:34", after := #[], guard := none }, { dst := some 36, op := Op.call { callee := Callee.value (Operand.func 66), args := #[Operand.tmp 34, Operand.tmp 35], argTypes := #[23, 3] }, type := 23, pos := "file.go:34", after := #[{ on := 3, ground := Ground.data }, { on := 4, ground := Ground.data }], guard := none }, { dst := some 37, op := Op.move (Operand.tmp 0), type := 73, pos := "file.go:34", after := #[], guard := none }, { dst := some 38, op := Op.nilCheck (Operand.tmp 37), type := 0, pos := "file.go:34", after := #[{ on := 6, ground := Ground.data }], guard := none }, { dst := some 39, op := Op.fieldAddr 82 (Operand.tmp 38) 1, type := 0, pos := "file.go:34", after := #[{ on := 7, ground := Ground.data }], guard := none }, { dst := some 40, op := Op.load 23 (Operand.tmp 39), type := 23, pos := "file.go:34", after := #[{ on := 8, ground := Ground.data }], guard := none }, { dst := some 41, op := Op.move (Operand.tmp 4), type := 3, pos := "file.go:34", after := #[], guard := none }, { dst := some 42, op := Op.call { callee := Callee.value (Operand.func 66), args := #[Operand.tmp 40, Operand.tmp 41], argTypes := #[23, 3] }, type := 23, pos := "file.go:34", after := #[{ on := 9, ground := Ground.data }, { on := 10, ground := Ground.data }, { on := 5, ground := Ground.chain }], guard := none }, { dst := some 6, op := Op.assign (Operand.tmp 36), type := 23, pos := "file.go:34", after := #[{ on := 5, ground := Ground.data }, { on := 11, ground := Ground.chain }, { on := 0, ground := Ground.phase }, { on := 1, ground := Ground.phase }, { on := 2, ground := Ground.phase }, { on := 3, ground := Ground.phase }, { on := 4, ground := Ground.phase }, { on := 5, ground := Ground.phase }, { on := 6, ground := Ground.textOnly Departure.lateStores }, { on := 7, ground := Ground.textOnly Departure.lateStores }, { on := 8, ground := Ground.textOnly Departure.lateStores }, { on := 9, ground := Ground.textOnly Departure.lateStores }, { on := 10, ground := Ground.textOnly Departure.lateStores }, { on := 11, ground := Ground.textOnly Departure.lateStoresUnsure }], guard := none }, { dst := some 7, op := Op.assign (Operand.tmp 42), type := 23, pos := "file.go:34", after := #[{ on := 11, ground := Ground.data }, { on := 12, ground := Ground.chain }, { on := 0, ground := Ground.phase }, { on := 1, ground := Ground.phase }, { on := 2, ground := Ground.phase }, { on := 3, ground := Ground.phase }, { on := 4, ground := Ground.phase }, { on := 5, ground := Ground.phase }, { on := 6, ground := Ground.phase }, { on := 7, ground := Ground.phase }, { on := 8, ground := Ground.phase }, { on := 9, ground := Ground.phase }, { on := 10, ground := Ground.phase }, { on := 11, ground := Ground.phase }, { on := 12, ground := Ground.phase }], guard := none }] true).wp Try.prog Q { tmps := (List.toArray ((.pointer (some ⟨g, 0, none⟩) :: u1 :: u2 :: u3 :: .int .i64 (sz : Int) :: u5 :: u6 :: u7 :: u8 :: u9 :: u10 :: u11 :: u12 :: u13 :: u14 :: u15 :: u16 :: u17 :: u18 :: u19 :: u20 :: u21 :: u22 :: u23 :: u24 :: u25 :: u26 :: u27 :: u28 :: u29 :: u30 :: u31 :: u32 :: u33 :: u34 :: u35 :: u36 :: u37 :: u38 :: u39 :: u40 :: u41 :: u42 :: u43 :: u44 :: u45 :: u46 :: u47 :: u48 :: u49 :: u50 :: u51 :: u52 :: u53 :: u54 :: u55 :: u56 :: u57 :: u58 :: u59 :: u60 :: u61 :: u62 :: u63 :: u64 :: u65 :: u66 :: u67 :: u68 :: u69 :: u70 :: []) : List Value)), defers := [] } w := by
  replace P1 := hide P1
  replace P2 := hide P2
  replace h := hide h
  refine wp_region_noPanic ?_
  refine wp_region_any (by kernel_rfl) ?_
  change wpAny _ _ _ _ _ _ _ (World.drew w)
  refine wpAny_take (i := 0) (oi := { dst := some 31, op := Op.move (Operand.tmp 0), type := 73, pos := "file.go:34", after := #[], guard := none }) (v := ?_) rfl (by kernel_rfl) (by kernel_rfl) (by kernel_rfl) (fun _ _ _ h => h) (Or.inl ⟨by rfl, ?_⟩) ?_
  rotate_left
  · intro w'
    go_simp
    try with_reducible rfl
  try simp only [Act.put, List.setIfInBounds_toArray, List.set_cons_zero, List.set_cons_succ]
  refine wpAny_take (i := 1) (oi := { dst := some 32, op := Op.nilCheck (Operand.tmp 31), type := 0, pos := "file.go:34", after := #[{ on := 0, ground := Ground.data }], guard := none }) (v := ?_) rfl (by kernel_rfl) (by kernel_rfl) (by kernel_rfl) (fun _ _ _ h => h) (Or.inl ⟨by rfl, ?_⟩) ?_
  rotate_left
  · intro w'
    go_simp
    try with_reducible rfl
  try simp only [Act.put, List.setIfInBounds_toArray, List.set_cons_zero, List.set_cons_succ]
  refine wpAny_take (i := 2) (oi := { dst := some 33, op := Op.fieldAddr 82 (Operand.tmp 32) 0, type := 0, pos := "file.go:34", after := #[{ on := 1, ground := Ground.data }], guard := none }) (v := ?_) rfl (by kernel_rfl) (by kernel_rfl) (by kernel_rfl) (fun _ _ _ h => h) (Or.inl ⟨by rfl, ?_⟩) ?_
  rotate_left
  · intro w'
    go_simp
    try with_reducible rfl
  try simp only [Act.put, List.setIfInBounds_toArray, List.set_cons_zero, List.set_cons_succ]
  refine wpAny_take (i := 4) (oi := { dst := some 35, op := Op.move (Operand.tmp 4), type := 3, pos := "file.go:34", after := #[], guard := none }) (v := ?_) rfl (by kernel_rfl) (by kernel_rfl) (by kernel_rfl) (fun _ _ _ h => h) (Or.inl ⟨by rfl, ?_⟩) ?_
  rotate_left
  · intro w'
    go_simp
    try with_reducible rfl
  try simp only [Act.put, List.setIfInBounds_toArray, List.set_cons_zero, List.set_cons_succ]
  refine wpAny_take (i := 6) (oi := { dst := some 37, op := Op.move (Operand.tmp 0), type := 73, pos := "file.go:34", after := #[], guard := none }) (v := ?_) rfl (by kernel_rfl) (by kernel_rfl) (by kernel_rfl) (fun _ _ _ h => h) (Or.inl ⟨by rfl, ?_⟩) ?_
  rotate_left
  · intro w'
    go_simp
    try with_reducible rfl
  try simp only [Act.put, List.setIfInBounds_toArray, List.set_cons_zero, List.set_cons_succ]
  refine wpAny_take (i := 7) (oi := { dst := some 38, op := Op.nilCheck (Operand.tmp 37), type := 0, pos := "file.go:34", after := #[{ on := 6, ground := Ground.data }], guard := none }) (v := ?_) rfl (by kernel_rfl) (by kernel_rfl) (by kernel_rfl) (fun _ _ _ h => h) (Or.inl ⟨by rfl, ?_⟩) ?_
  rotate_left
  · intro w'
    go_simp
    try with_reducible rfl
  try simp only [Act.put, List.setIfInBounds_toArray, List.set_cons_zero, List.set_cons_succ]
  refine wpAny_take (i := 8) (oi := { dst := some 39, op := Op.fieldAddr 82 (Operand.tmp 38) 1, type := 0, pos := "file.go:34", after := #[{ on := 7, ground := Ground.data }], guard := none }) (v := ?_) rfl (by kernel_rfl) (by kernel_rfl) (by kernel_rfl) (fun _ _ _ h => h) (Or.inl ⟨by rfl, ?_⟩) ?_
  rotate_left
  · intro w'
    go_simp
    try with_reducible rfl
  try simp only [Act.put, List.setIfInBounds_toArray, List.set_cons_zero, List.set_cons_succ]
  refine wpAny_take (i := 10) (oi := { dst := some 41, op := Op.move (Operand.tmp 4), type := 3, pos := "file.go:34", after := #[], guard := none }) (v := ?_) rfl (by kernel_rfl) (by kernel_rfl) (by kernel_rfl) (fun _ _ _ h => h) (Or.inl ⟨by rfl, ?_⟩) ?_
  rotate_left
  · intro w'
    go_simp
    try with_reducible rfl
  try simp only [Act.put, List.setIfInBounds_toArray, List.set_cons_zero, List.set_cons_succ]
  refine wpAny_ready (rs := [3, 9]) (by kernel_rfl) (by simp) ?_
  refine (AllReady.cons (o := { dst := some 34, op := Op.load 23 (Operand.tmp 33), type := 23, pos := "file.go:34", after := #[{ on := 2, ground := Ground.data }], guard := none }) rfl (fun K3 hK3 => ?_) (AllReady.cons (o := { dst := some 40, op := Op.load 23 (Operand.tmp 39), type := 23, pos := "file.go:34", after := #[{ on := 8, ground := Ground.data }], guard := none }) rfl (fun K9 hK9 => ?_) AllReady.nil))
  · go_simp
    refine hK3 _ _ ?_
    clear hK3 K3
    try simp only [Act.put, List.setIfInBounds_toArray, List.set_cons_zero, List.set_cons_succ]
    refine wpAny_ready (rs := [5, 9]) (by kernel_rfl) (by simp) ?_
    refine (AllReady.cons (o := { dst := some 36, op := Op.call { callee := Callee.value (Operand.func 66), args := #[Operand.tmp 34, Operand.tmp 35], argTypes := #[23, 3] }, type := 23, pos := "file.go:34", after := #[{ on := 3, ground := Ground.data }, { on := 4, ground := Ground.data }], guard := none }) rfl (fun K5 hK5 => ?_) (AllReady.cons (o := { dst := some 40, op := Op.load 23 (Operand.tmp 39), type := 23, pos := "file.go:34", after := #[{ on := 8, ground := Ground.data }], guard := none }) rfl (fun K9 hK9 => ?_) AllReady.nil))
    · go_simp
      refine (P1.out _ rfl).mono ?_
      rintro e w2 ⟨x1, rfl, hA1, q1⟩
      replace hA1 := hide hA1
      refine hK5 _ _ ?_
      clear hK5 K5
      try simp only [Act.put, List.setIfInBounds_toArray, List.set_cons_zero, List.set_cons_succ]
      refine wpAny_ready (rs := [9]) (by kernel_rfl) (by simp) ?_
      refine (AllReady.cons (o := { dst := some 40, op := Op.load 23 (Operand.tmp 39), type := 23, pos := "file.go:34", after := #[{ on := 8, ground := Ground.data }], guard := none }) rfl (fun K9 hK9 => ?_) AllReady.nil)
      go_simp
      refine hK9 _ _ ?_
      clear hK9 K9
      try simp only [Act.put, List.setIfInBounds_toArray, List.set_cons_zero, List.set_cons_succ]
      refine wpAny_ready (rs := [11]) (by kernel_rfl) (by simp) ?_
      refine (AllReady.cons (o := { dst := some 42, op := Op.call { callee := Callee.value (Operand.func 66), args := #[Operand.tmp 40, Operand.tmp 41], argTypes := #[23, 3] }, type := 23, pos := "file.go:34", after := #[{ on := 9, ground := Ground.data }, { on := 10, ground := Ground.data }, { on := 5, ground := Ground.chain }], guard := none }) rfl (fun K11 hK11 => ?_) AllReady.nil)
      go_simp
      refine (P2.out x1 _ hA1.out).mono ?_
      rintro e w3 ⟨x2, rfl, hA2⟩
      replace hA2 := hide hA2
      refine hK11 _ _ ?_
      clear hK11 K11
      try simp only [Act.put, List.setIfInBounds_toArray, List.set_cons_zero, List.set_cons_succ]
      refine wpAny_take (i := 12) (oi := { dst := some 6, op := Op.assign (Operand.tmp 36), type := 23, pos := "file.go:34", after := #[{ on := 5, ground := Ground.data }, { on := 11, ground := Ground.chain }, { on := 0, ground := Ground.phase }, { on := 1, ground := Ground.phase }, { on := 2, ground := Ground.phase }, { on := 3, ground := Ground.phase }, { on := 4, ground := Ground.phase }, { on := 5, ground := Ground.phase }, { on := 6, ground := Ground.textOnly Departure.lateStores }, { on := 7, ground := Ground.textOnly Departure.lateStores }, { on := 8, ground := Ground.textOnly Departure.lateStores }, { on := 9, ground := Ground.textOnly Departure.lateStores }, { on := 10, ground := Ground.textOnly Departure.lateStores }, { on := 11, ground := Ground.textOnly Departure.lateStoresUnsure }], guard := none }) (v := ?_) rfl (by kernel_rfl) (by kernel_rfl) (by kernel_rfl) (fun _ _ _ h => h) (Or.inl ⟨by rfl, ?_⟩) ?_
      rotate_left
      · intro w'
        go_simp
        try with_reducible rfl
      try simp only [Act.put, List.setIfInBounds_toArray, List.set_cons_zero, List.set_cons_succ]
      refine wpAny_take (i := 13) (oi := { dst := some 7, op := Op.assign (Operand.tmp 42), type := 23, pos := "file.go:34", after := #[{ on := 11, ground := Ground.data }, { on := 12, ground := Ground.chain }, { on := 0, ground := Ground.phase }, { on := 1, ground := Ground.phase }, { on := 2, ground := Ground.phase }, { on := 3, ground := Ground.phase }, { on := 4, ground := Ground.phase }, { on := 5, ground := Ground.phase }, { on := 6, ground := Ground.phase }, { on := 7, ground := Ground.phase }, { on := 8, ground := Ground.phase }, { on := 9, ground := Ground.phase }, { on := 10, ground := Ground.phase }, { on := 11, ground := Ground.phase }, { on := 12, ground := Ground.phase }], guard := none }) (v := ?_) rfl (by kernel_rfl) (by kernel_rfl) (by kernel_rfl) (fun _ _ _ h => h) (Or.inl ⟨by rfl, ?_⟩) ?_
      rotate_left
      · intro w'
        go_simp
        try with_reducible rfl
      try simp only [Act.put, List.setIfInBounds_toArray, List.set_cons_zero, List.set_cons_succ]
      refine wpAny_done (by kernel_rfl) ?_ _
      refine NoPanic.normal ?_
      exact h.out x1 x2 w3 hA2.out
    · go_simp
      refine hK9 _ _ ?_
      clear hK9 K9
      try simp only [Act.put, List.setIfInBounds_toArray, List.set_cons_zero, List.set_cons_succ]
      refine wpAny_ready (rs := [5]) (by kernel_rfl) (by simp) ?_
      refine (AllReady.cons (o := { dst := some 36, op := Op.call { callee := Callee.value (Operand.func 66), args := #[Operand.tmp 34, Operand.tmp 35], argTypes := #[23, 3] }, type := 23, pos := "file.go:34", after := #[{ on := 3, ground := Ground.data }, { on := 4, ground := Ground.data }], guard := none }) rfl (fun K5 hK5 => ?_) AllReady.nil)
      go_simp
      refine (P1.out _ rfl).mono ?_
      rintro e w2 ⟨x1, rfl, hA1, q1⟩
      replace hA1 := hide hA1
      refine hK5 _ _ ?_
      clear hK5 K5
      try simp only [Act.put, List.setIfInBounds_toArray, List.set_cons_zero, List.set_cons_succ]
      refine wpAny_ready (rs := [11]) (by kernel_rfl) (by simp) ?_
      refine (AllReady.cons (o := { dst := some 42, op := Op.call { callee := Callee.value (Operand.func 66), args := #[Operand.tmp 40, Operand.tmp 41], argTypes := #[23, 3] }, type := 23, pos := "file.go:34", after := #[{ on := 9, ground := Ground.data }, { on := 10, ground := Ground.data }, { on := 5, ground := Ground.chain }], guard := none }) rfl (fun K11 hK11 => ?_) AllReady.nil)
      go_simp
      refine (P2.out x1 _ hA1.out).mono ?_
      rintro e w3 ⟨x2, rfl, hA2⟩
      replace hA2 := hide hA2
      refine hK11 _ _ ?_
      clear hK11 K11
      try simp only [Act.put, List.setIfInBounds_toArray, List.set_cons_zero, List.set_cons_succ]
      refine wpAny_take (i := 12) (oi := { dst := some 6, op := Op.assign (Operand.tmp 36), type := 23, pos := "file.go:34", after := #[{ on := 5, ground := Ground.data }, { on := 11, ground := Ground.chain }, { on := 0, ground := Ground.phase }, { on := 1, ground := Ground.phase }, { on := 2, ground := Ground.phase }, { on := 3, ground := Ground.phase }, { on := 4, ground := Ground.phase }, { on := 5, ground := Ground.phase }, { on := 6, ground := Ground.textOnly Departure.lateStores }, { on := 7, ground := Ground.textOnly Departure.lateStores }, { on := 8, ground := Ground.textOnly Departure.lateStores }, { on := 9, ground := Ground.textOnly Departure.lateStores }, { on := 10, ground := Ground.textOnly Departure.lateStores }, { on := 11, ground := Ground.textOnly Departure.lateStoresUnsure }], guard := none }) (v := ?_) rfl (by kernel_rfl) (by kernel_rfl) (by kernel_rfl) (fun _ _ _ h => h) (Or.inl ⟨by rfl, ?_⟩) ?_
      rotate_left
      · intro w'
        go_simp
        try with_reducible rfl
      try simp only [Act.put, List.setIfInBounds_toArray, List.set_cons_zero, List.set_cons_succ]
      refine wpAny_take (i := 13) (oi := { dst := some 7, op := Op.assign (Operand.tmp 42), type := 23, pos := "file.go:34", after := #[{ on := 11, ground := Ground.data }, { on := 12, ground := Ground.chain }, { on := 0, ground := Ground.phase }, { on := 1, ground := Ground.phase }, { on := 2, ground := Ground.phase }, { on := 3, ground := Ground.phase }, { on := 4, ground := Ground.phase }, { on := 5, ground := Ground.phase }, { on := 6, ground := Ground.phase }, { on := 7, ground := Ground.phase }, { on := 8, ground := Ground.phase }, { on := 9, ground := Ground.phase }, { on := 10, ground := Ground.phase }, { on := 11, ground := Ground.phase }, { on := 12, ground := Ground.phase }], guard := none }) (v := ?_) rfl (by kernel_rfl) (by kernel_rfl) (by kernel_rfl) (fun _ _ _ h => h) (Or.inl ⟨by rfl, ?_⟩) ?_
      rotate_left
      · intro w'
        go_simp
        try with_reducible rfl
      try simp only [Act.put, List.setIfInBounds_toArray, List.set_cons_zero, List.set_cons_succ]
      refine wpAny_done (by kernel_rfl) ?_ _
      refine NoPanic.normal ?_
      exact h.out x1 x2 w3 hA2.out
  · go_simp
    refine hK9 _ _ ?_
    clear hK9 K9
    try simp only [Act.put, List.setIfInBounds_toArray, List.set_cons_zero, List.set_cons_succ]
    refine wpAny_ready (rs := [3]) (by kernel_rfl) (by simp) ?_
    refine (AllReady.cons (o := { dst := some 34, op := Op.load 23 (Operand.tmp 33), type := 23, pos := "file.go:34", after := #[{ on := 2, ground := Ground.data }], guard := none }) rfl (fun K3 hK3 => ?_) AllReady.nil)
    go_simp
    refine hK3 _ _ ?_
    clear hK3 K3
    try simp only [Act.put, List.setIfInBounds_toArray, List.set_cons_zero, List.set_cons_succ]
    refine wpAny_ready (rs := [5]) (by kernel_rfl) (by simp) ?_
    refine (AllReady.cons (o := { dst := some 36, op := Op.call { callee := Callee.value (Operand.func 66), args := #[Operand.tmp 34, Operand.tmp 35], argTypes := #[23, 3] }, type := 23, pos := "file.go:34", after := #[{ on := 3, ground := Ground.data }, { on := 4, ground := Ground.data }], guard := none }) rfl (fun K5 hK5 => ?_) AllReady.nil)
    go_simp
    refine (P1.out _ rfl).mono ?_
    rintro e w2 ⟨x1, rfl, hA1, q1⟩
    replace hA1 := hide hA1
    refine hK5 _ _ ?_
    clear hK5 K5
    try simp only [Act.put, List.setIfInBounds_toArray, List.set_cons_zero, List.set_cons_succ]
    refine wpAny_ready (rs := [11]) (by kernel_rfl) (by simp) ?_
    refine (AllReady.cons (o := { dst := some 42, op := Op.call { callee := Callee.value (Operand.func 66), args := #[Operand.tmp 40, Operand.tmp 41], argTypes := #[23, 3] }, type := 23, pos := "file.go:34", after := #[{ on := 9, ground := Ground.data }, { on := 10, ground := Ground.data }, { on := 5, ground := Ground.chain }], guard := none }) rfl (fun K11 hK11 => ?_) AllReady.nil)
    go_simp
    refine (P2.out x1 _ hA1.out).mono ?_
    rintro e w3 ⟨x2, rfl, hA2⟩
    replace hA2 := hide hA2
    refine hK11 _ _ ?_
    clear hK11 K11
    try simp only [Act.put, List.setIfInBounds_toArray, List.set_cons_zero, List.set_cons_succ]
    refine wpAny_take (i := 12) (oi := { dst := some 6, op := Op.assign (Operand.tmp 36), type := 23, pos := "file.go:34", after := #[{ on := 5, ground := Ground.data }, { on := 11, ground := Ground.chain }, { on := 0, ground := Ground.phase }, { on := 1, ground := Ground.phase }, { on := 2, ground := Ground.phase }, { on := 3, ground := Ground.phase }, { on := 4, ground := Ground.phase }, { on := 5, ground := Ground.phase }, { on := 6, ground := Ground.textOnly Departure.lateStores }, { on := 7, ground := Ground.textOnly Departure.lateStores }, { on := 8, ground := Ground.textOnly Departure.lateStores }, { on := 9, ground := Ground.textOnly Departure.lateStores }, { on := 10, ground := Ground.textOnly Departure.lateStores }, { on := 11, ground := Ground.textOnly Departure.lateStoresUnsure }], guard := none }) (v := ?_) rfl (by kernel_rfl) (by kernel_rfl) (by kernel_rfl) (fun _ _ _ h => h) (Or.inl ⟨by rfl, ?_⟩) ?_
    rotate_left
    · intro w'
      go_simp
      try with_reducible rfl
    try simp only [Act.put, List.setIfInBounds_toArray, List.set_cons_zero, List.set_cons_succ]
    refine wpAny_take (i := 13) (oi := { dst := some 7, op := Op.assign (Operand.tmp 42), type := 23, pos := "file.go:34", after := #[{ on := 11, ground := Ground.data }, { on := 12, ground := Ground.chain }, { on := 0, ground := Ground.phase }, { on := 1, ground := Ground.phase }, { on := 2, ground := Ground.phase }, { on := 3, ground := Ground.phase }, { on := 4, ground := Ground.phase }, { on := 5, ground := Ground.phase }, { on := 6, ground := Ground.phase }, { on := 7, ground := Ground.phase }, { on := 8, ground := Ground.phase }, { on := 9, ground := Ground.phase }, { on := 10, ground := Ground.phase }, { on := 11, ground := Ground.phase }, { on := 12, ground := Ground.phase }], guard := none }) (v := ?_) rfl (by kernel_rfl) (by kernel_rfl) (by kernel_rfl) (fun _ _ _ h => h) (Or.inl ⟨by rfl, ?_⟩) ?_
    rotate_left
    · intro w'
      go_simp
      try with_reducible rfl
    try simp only [Act.put, List.setIfInBounds_toArray, List.set_cons_zero, List.set_cons_succ]
    refine wpAny_done (by kernel_rfl) ?_ _
    refine NoPanic.normal ?_
    exact h.out x1 x2 w3 hA2.out
set_option maxHeartbeats 4000000 in
set_option maxRecDepth 100000 in
theorem reg36_9 (w : World) (q sz at0 e0 k x1 x2 : Nat) (rh : ∀ (w : World) (r : Nat), (Instr.sliceAt 23 (.slice (some ⟨r, 0, none⟩) sz sz) (some (.int .i64 (at0 : Int))) (some (.int .i64 (e0 : Int))) none).run Try.prog w = .ok (.slice (some ⟨r, at0, none⟩) k (sz - at0)) w) (A : World → Prop) (P1 : ∀ wx : World, wx = w.drew → Calls Try.prog 67 #[.slice (some ⟨x2, at0, none⟩) k (sz - at0), .slice (some ⟨x1, at0, none⟩) k (sz - at0), ptr q] wx fun e w' => e = .returned (.tuple #[]) ∧ A w')
    (u0 u2 u3 u4 u5 u10 u11 u12 u13 u14 u15 u16 u17 u18 u19 u20 u21 u22 u23 u24 u25 u26 u27 u28 u29 u30 u31 u32 u33 u34 u35 u36 u37 u38 u39 u40 u41 u42 u43 u44 u45 u46 u47 u48 u49 u50 u51 u52 u53 u54 u55 u56 u57 u58 u59 u60 u61 u62 u63 u64 u65 u66 u67 u68 u69 u70 : Value) (Q : Exit → Act → World → Prop)
    (h : ∀ w', A w' → Q .normal { tmps := (List.toArray ((u0 :: .pointer (some ⟨q, 0, none⟩) :: u2 :: u3 :: u4 :: u5 :: .slice (some ⟨x1, 0, none⟩) sz sz :: .slice (some ⟨x2, 0, none⟩) sz sz :: .int .i64 (at0 : Int) :: .int .i64 (e0 : Int) :: u10 :: u11 :: u12 :: u13 :: u14 :: u15 :: u16 :: u17 :: u18 :: u19 :: u20 :: u21 :: u22 :: u23 :: u24 :: u25 :: u26 :: u27 :: u28 :: u29 :: u30 :: u31 :: u32 :: u33 :: u34 :: u35 :: u36 :: u37 :: u38 :: u39 :: u40 :: u41 :: u42 :: u43 :: u44 :: u45 :: u46 :: u47 :: u48 :: u49 :: u50 :: u51 :: .slice (some ⟨x2, 0, none⟩) sz sz :: .int .i64 (at0 : Int) :: .int .i64 (e0 : Int) :: .slice (some ⟨x2, at0, none⟩) k (sz - at0) :: .slice (some ⟨x1, 0, none⟩) sz sz :: .int .i64 (at0 : Int) :: .int .i64 (e0 : Int) :: .slice (some ⟨x1, at0, none⟩) k (sz - at0) :: .pointer (some ⟨q, 0, none⟩) :: .tuple #[] :: u62 :: u63 :: u64 :: u65 :: u66 :: u67 :: u68 :: u69 :: u70 :: []) : List Value)), defers := [] } w') :
    (Code.region 9 #[{ dst := some 52, op := Op.move (Operand.tmp 7), type := 23, pos := "file.go:37", after := #[], guard := none }, { dst := some 53, op := Op.move (Operand.tmp 8), type := 3, pos := "file.go:37", after := #[], guard := none }, { dst := some 54, op := Op.move (Operand.tmp 9), type := 3, pos := "file.go:37", after := #[], guard := none }, { dst := some 55, op := Op.slice 23 (Operand.tmp 52) (some (Operand.tmp 53)) (some (Operand.tmp 54)) none, type := 23, pos := "file.go:37", after := #[{ on := 0, ground := Ground.data }, { on := 1, ground := Ground.data }, { on := 2, ground := Ground.data }], guard := none }, { dst := some 56, op := Op.move (Operand.tmp 6), type := 23, pos := "file.go:37", after := #[], guard := none }, { dst := some 57, op := Op.move (Operand.tmp 8), type := 3, pos := "file.go:37", after := #[], guard := none }, { dst := some 58, op := Op.move (Operand.tmp 9), type := 3, pos := "file.go:37", after := #[], guard := none }, { dst := some 59, op := Op.slice 23 (Operand.tmp 56) (some (Operand.tmp 57)) (some (Operand.tmp 58)) none, type := 23, pos := "file.go:37", after := #[{ on := 4, ground := Ground.data }, { on := 5, ground := Ground.data }, { on := 6, ground := Ground.data }], guard := none }, { dst := some 60, op := Op.move (Operand.tmp 1), type := 75, pos := "file.go:37", after := #[], guard := none }, { dst := some 61, op := Op.call { callee := Callee.value (Operand.func 67), args := #[Operand.tmp 55, Operand.tmp 59, Operand.tmp 60], argTypes := #[23, 23, 75] }, type := 0, pos := "file.go:37", after := #[{ on := 3, ground := Ground.data }, { on := 7, ground := Ground.data }, { on := 8, ground := Ground.data }], guard := none }] true).wp Try.prog Q { tmps := (List.toArray ((u0 :: .pointer (some ⟨q, 0, none⟩) :: u2 :: u3 :: u4 :: u5 :: .slice (some ⟨x1, 0, none⟩) sz sz :: .slice (some ⟨x2, 0, none⟩) sz sz :: .int .i64 (at0 : Int) :: .int .i64 (e0 : Int) :: u10 :: u11 :: u12 :: u13 :: u14 :: u15 :: u16 :: u17 :: u18 :: u19 :: u20 :: u21 :: u22 :: u23 :: u24 :: u25 :: u26 :: u27 :: u28 :: u29 :: u30 :: u31 :: u32 :: u33 :: u34 :: u35 :: u36 :: u37 :: u38 :: u39 :: u40 :: u41 :: u42 :: u43 :: u44 :: u45 :: u46 :: u47 :: u48 :: u49 :: u50 :: u51 :: u52 :: u53 :: u54 :: u55 :: u56 :: u57 :: u58 :: u59 :: u60 :: u61 :: u62 :: u63 :: u64 :: u65 :: u66 :: u67 :: u68 :: u69 :: u70 :: []) : List Value)), defers := [] } w := by
  replace P1 := hide P1
  replace h := hide h
  refine wp_region_noPanic ?_
  refine wp_region_any (by kernel_rfl) ?_
  change wpAny _ _ _ _ _ _ _ (World.drew w)
  refine wpAny_take (i := 0) (oi := { dst := some 52, op := Op.move (Operand.tmp 7), type := 23, pos := "file.go:37", after := #[], guard := none }) (v := ?_) rfl (by kernel_rfl) (by kernel_rfl) (by kernel_rfl) (fun _ _ _ h => h) (Or.inl ⟨by rfl, ?_⟩) ?_
  rotate_left
  · intro w'
    go_simp
    try with_reducible rfl
  try simp only [Act.put, List.setIfInBounds_toArray, List.set_cons_zero, List.set_cons_succ]
  refine wpAny_take (i := 1) (oi := { dst := some 53, op := Op.move (Operand.tmp 8), type := 3, pos := "file.go:37", after := #[], guard := none }) (v := ?_) rfl (by kernel_rfl) (by kernel_rfl) (by kernel_rfl) (fun _ _ _ h => h) (Or.inl ⟨by rfl, ?_⟩) ?_
  rotate_left
  · intro w'
    go_simp
    try with_reducible rfl
  try simp only [Act.put, List.setIfInBounds_toArray, List.set_cons_zero, List.set_cons_succ]
  refine wpAny_take (i := 2) (oi := { dst := some 54, op := Op.move (Operand.tmp 9), type := 3, pos := "file.go:37", after := #[], guard := none }) (v := ?_) rfl (by kernel_rfl) (by kernel_rfl) (by kernel_rfl) (fun _ _ _ h => h) (Or.inl ⟨by rfl, ?_⟩) ?_
  rotate_left
  · intro w'
    go_simp
    try with_reducible rfl
  try simp only [Act.put, List.setIfInBounds_toArray, List.set_cons_zero, List.set_cons_succ]
  refine wpAny_take (i := 3) (oi := { dst := some 55, op := Op.slice 23 (Operand.tmp 52) (some (Operand.tmp 53)) (some (Operand.tmp 54)) none, type := 23, pos := "file.go:37", after := #[{ on := 0, ground := Ground.data }, { on := 1, ground := Ground.data }, { on := 2, ground := Ground.data }], guard := none }) (v := ?_) rfl (by kernel_rfl) (by kernel_rfl) (by kernel_rfl) (fun _ _ _ h => h) (Or.inl ⟨by rfl, ?_⟩) ?_
  rotate_left
  · intro w'
    go_simp
    try with_reducible rfl
  try simp only [Act.put, List.setIfInBounds_toArray, List.set_cons_zero, List.set_cons_succ]
  refine wpAny_take (i := 4) (oi := { dst := some 56, op := Op.move (Operand.tmp 6), type := 23, pos := "file.go:37", after := #[], guard := none }) (v := ?_) rfl (by kernel_rfl) (by kernel_rfl) (by kernel_rfl) (fun _ _ _ h => h) (Or.inl ⟨by rfl, ?_⟩) ?_
  rotate_left
  · intro w'
    go_simp
    try with_reducible rfl
  try simp only [Act.put, List.setIfInBounds_toArray, List.set_cons_zero, List.set_cons_succ]
  refine wpAny_take (i := 5) (oi := { dst := some 57, op := Op.move (Operand.tmp 8), type := 3, pos := "file.go:37", after := #[], guard := none }) (v := ?_) rfl (by kernel_rfl) (by kernel_rfl) (by kernel_rfl) (fun _ _ _ h => h) (Or.inl ⟨by rfl, ?_⟩) ?_
  rotate_left
  · intro w'
    go_simp
    try with_reducible rfl
  try simp only [Act.put, List.setIfInBounds_toArray, List.set_cons_zero, List.set_cons_succ]
  refine wpAny_take (i := 6) (oi := { dst := some 58, op := Op.move (Operand.tmp 9), type := 3, pos := "file.go:37", after := #[], guard := none }) (v := ?_) rfl (by kernel_rfl) (by kernel_rfl) (by kernel_rfl) (fun _ _ _ h => h) (Or.inl ⟨by rfl, ?_⟩) ?_
  rotate_left
  · intro w'
    go_simp
    try with_reducible rfl
  try simp only [Act.put, List.setIfInBounds_toArray, List.set_cons_zero, List.set_cons_succ]
  refine wpAny_take (i := 7) (oi := { dst := some 59, op := Op.slice 23 (Operand.tmp 56) (some (Operand.tmp 57)) (some (Operand.tmp 58)) none, type := 23, pos := "file.go:37", after := #[{ on := 4, ground := Ground.data }, { on := 5, ground := Ground.data }, { on := 6, ground := Ground.data }], guard := none }) (v := ?_) rfl (by kernel_rfl) (by kernel_rfl) (by kernel_rfl) (fun _ _ _ h => h) (Or.inl ⟨by rfl, ?_⟩) ?_
  rotate_left
  · intro w'
    go_simp
    try with_reducible rfl
  try simp only [Act.put, List.setIfInBounds_toArray, List.set_cons_zero, List.set_cons_succ]
  refine wpAny_take (i := 8) (oi := { dst := some 60, op := Op.move (Operand.tmp 1), type := 75, pos := "file.go:37", after := #[], guard := none }) (v := ?_) rfl (by kernel_rfl) (by kernel_rfl) (by kernel_rfl) (fun _ _ _ h => h) (Or.inl ⟨by rfl, ?_⟩) ?_
  rotate_left
  · intro w'
    go_simp
    try with_reducible rfl
  try simp only [Act.put, List.setIfInBounds_toArray, List.set_cons_zero, List.set_cons_succ]
  refine wpAny_ready (rs := [9]) (by kernel_rfl) (by simp) ?_
  refine (AllReady.cons (o := { dst := some 61, op := Op.call { callee := Callee.value (Operand.func 67), args := #[Operand.tmp 55, Operand.tmp 59, Operand.tmp 60], argTypes := #[23, 23, 75] }, type := 0, pos := "file.go:37", after := #[{ on := 3, ground := Ground.data }, { on := 7, ground := Ground.data }, { on := 8, ground := Ground.data }], guard := none }) rfl (fun K9 hK9 => ?_) AllReady.nil)
  go_simp
  refine (P1.out _ rfl).mono ?_
  rintro e w2 ⟨rfl, hA⟩
  replace hA := hide hA
  refine hK9 _ _ ?_
  clear hK9 K9
  try simp only [Act.put, List.setIfInBounds_toArray, List.set_cons_zero, List.set_cons_succ]
  refine wpAny_done (by kernel_rfl) ?_ _
  refine NoPanic.normal ?_
  exact h.out w2 hA.out
/-- What a crash leaves of sectors, one behind the other. -/
def mxA : Nat → List Int → List Int → List Int → List Int × List Int
  | 0, S, _, p => (S, p)
  | f + 1, S, N, p => if S = [] then ([], p) else ((mixS (S.take 256) (N.take 256) p).1 ++ (mxA f (S.drop 256) (N.drop 256) (mixS (S.take 256) (N.take 256) p).2).1, (mxA f (S.drop 256) (N.drop 256) (mixS (S.take 256) (N.take 256) p).2).2)
theorem mxA_nil (f : Nat) (N p : List Int) : mxA f [] N p = ([], p) := by cases f <;> simp [mxA]
theorem mixS_length {S N : List Int} (p : List Int) (h : N.length = S.length) : (mixS S N p).1.length = S.length := by
  unfold mixS
  split
  · rfl
  · split
    · exact h
    · split
      · simp; omega
      · rfl
theorem mixS_byt {S N : List Int} (p : List Int) (h1 : Byt S) (h2 : Byt N) : Byt (mixS S N p).1 := by
  unfold mixS
  split
  · exact h1
  · split
    · exact h2
    · split
      · intro x hx
        rcases List.mem_append.1 hx with hx | hx
        · exact h2 x (List.mem_of_mem_take hx)
        · exact h1 x (List.mem_of_mem_drop hx)
      · exact h1
/-- How many bytes a crash leaves, and the picks behind. -/
def crSz (now sure ps : List Int) : Nat × List Int := if sure.length < now.length then (sure.length + ((nx ps).1 % (((now.length - sure.length : Nat) : Int) + 1)).toNat, (nx ps).2) else (sure.length, ps)
/-- What a crash leaves of a file, and the picks behind. -/
def crF (now sure ps : List Int) : List Int × List Int := mxA (crSz now sure ps).1 (fil sure (crSz now sure ps).1) (fil now (crSz now sure ps).1) (crSz now sure ps).2
theorem crSz_le (now sure ps : List Int) : sure.length ≤ (crSz now sure ps).1 ∧ (crSz now sure ps).1 ≤ max now.length sure.length := by
  unfold crSz
  split
  · have h0 := nx_nonneg ps
    have h1 := Int.emod_lt_of_pos (nx ps).1 (show (0 : Int) < ((now.length - sure.length : Nat) : Int) + 1 by omega)
    have h2 := Int.emod_nonneg (nx ps).1 (show ((now.length - sure.length : Nat) : Int) + 1 ≠ 0 by omega)
    simp only
    omega
  · simp only
    omega
/-- What holds between the rounds of a crash. -/
structure Cl (w0 wr : World) (x1 x2 q sz j : Nat) (S N p1 : List Int) (T : Nat → Prop) (O X p : List Int) : Prop where
  r1 : Rw wr x1 N
  r2 : Rw wr x2 O
  hO : O = X ++ S.drop (256 * j)
  hX : X.length = min (256 * j) sz
  hb : Byt O
  pl : Pl wr q p T
  eq : mxA sz S N p1 = (X ++ (mxA (sz - j) (S.drop (256 * j)) (N.drop (256 * j)) p).1, (mxA (sz - j) (S.drop (256 * j)) (N.drop (256 * j)) p).2)
  but : But (fun x => x = x2 ∨ x = q) w0 wr
theorem Cl.step {w0 wr w' : World} {x1 x2 q sz j : Nat} {S N p1 O X p : List Int} {T : Nat → Prop} (h : Cl w0 wr x1 x2 q sz j S N p1 T O X p) (hlt : 256 * j < sz) (hS : S.length = sz) (hN : N.length = sz) (hNb : Byt N) {k : Nat} (hk : k = min 256 (sz - 256 * j)) (n1 : x1 ≠ x2) (n2 : x1 ≠ q)
    (R : Rw w' x2 (put O (256 * j) (mixS ((O.drop (256 * j)).take k) ((N.drop (256 * j)).take k) p).1)) (P : Pl w' q (mixS ((O.drop (256 * j)).take k) ((N.drop (256 * j)).take k) p).2 T) (B : But (fun x => x = x2 ∨ x = q) wr w') :
    ∃ O' X' p', Cl w0 w' x1 x2 q sz (j + 1) S N p1 T O' X' p' := by
  have hXl : X.length = 256 * j := by rw [h.hX]; omega
  have hOd : O.drop (256 * j) = S.drop (256 * j) := by rw [h.hO, ← hXl, List.drop_left]
  have hSd : (S.drop (256 * j)).length = sz - 256 * j := by simp [hS]
  have hNd : (N.drop (256 * j)).length = sz - 256 * j := by simp [hN]
  have eS : (S.drop (256 * j)).take k = (S.drop (256 * j)).take 256 := by
    rw [hk]
    by_cases hc : 256 ≤ sz - 256 * j
    · rw [Nat.min_eq_left hc]
    · rw [Nat.min_eq_right (by omega), List.take_of_length_le (by omega), List.take_of_length_le (by omega)]
  have eN : (N.drop (256 * j)).take k = (N.drop (256 * j)).take 256 := by
    rw [hk]
    by_cases hc : 256 ≤ sz - 256 * j
    · rw [Nat.min_eq_left hc]
    · rw [Nat.min_eq_right (by omega), List.take_of_length_le (by omega), List.take_of_length_le (by omega)]
  rw [hOd, eS, eN] at R P
  have hml : (mixS ((S.drop (256 * j)).take 256) ((N.drop (256 * j)).take 256) p).1.length = k := by
    rw [mixS_length _ (by simp [hS, hN])]
    simp [hS]
    omega
  have hSj : S.drop (256 * j) ≠ [] := fun e => by rw [e] at hSd; simp at hSd; omega
  have hOl : O.length = sz := by rw [h.hO]; simp [hXl, hS]; omega
  obtain ⟨f, hf⟩ : ∃ f, sz - j = f + 1 := ⟨sz - j - 1, by omega⟩
  have hdd : ∀ L : List Int, (L.drop (256 * j)).drop 256 = L.drop (256 * (j + 1)) := fun L => by rw [List.drop_drop]; congr 1
  have e1 := h.eq
  rw [hf, mxA, if_neg hSj, hdd, hdd] at e1
  have hput : put O (256 * j) (mixS ((S.drop (256 * j)).take 256) ((N.drop (256 * j)).take 256) p).1 = (X ++ (mixS ((S.drop (256 * j)).take 256) ((N.drop (256 * j)).take 256) p).1) ++ S.drop (256 * (j + 1)) := by
    rw [put, hml]
    have e2 : O.take (256 * j) = X := by rw [h.hO, ← hXl, List.take_left]
    have e3 : O.drop (256 * j + k) = S.drop (256 * (j + 1)) := by
      rw [← List.drop_drop, hOd, List.drop_drop]
      by_cases hc : 256 ≤ sz - 256 * j
      · congr 1
        omega
      · rw [List.drop_eq_nil_of_le (by omega), List.drop_eq_nil_of_le (by omega)]
    rw [e2, e3, List.append_assoc]
  refine ⟨_, X ++ (mixS ((S.drop (256 * j)).take 256) ((N.drop (256 * j)).take 256) p).1, _, h.r1.but B (fun e => by rcases e with e | e; exact n1 e; exact n2 e), R, hput, ?_, ?_, P, ?_, h.but.trans B (fun _ _ e => e)⟩
  · rw [List.length_append, hXl, hml, hk]
    omega
  · rw [hput]
    have hbS : Byt (S.drop (256 * j)) := fun x hx => h.hb x (by rw [h.hO]; exact List.mem_append_right _ hx)
    intro x hx
    rcases List.mem_append.1 hx with hx | hx
    · rcases List.mem_append.1 hx with hx | hx
      · exact h.hb x (by rw [h.hO]; exact List.mem_append_left _ hx)
      · exact mixS_byt p (fun y hy => hbS y (List.mem_of_mem_take hy)) (fun y hy => hNb y (List.mem_of_mem_drop (List.mem_of_mem_take hy))) x hx
    · rw [← hdd] at hx
      exact hbS x (List.mem_of_mem_drop hx)
  · rw [e1, show sz - (j + 1) = f by omega, List.append_assoc]
theorem Cl.last {w0 wr : World} {x1 x2 q sz j : Nat} {S N p1 O X p : List Int} {T : Nat → Prop} (h : Cl w0 wr x1 x2 q sz j S N p1 T O X p) (hge : sz ≤ 256 * j) (hS : S.length = sz) : mxA sz S N p1 = (O, p) := by
  have e : S.drop (256 * j) = [] := List.drop_eq_nil_of_le (by omega)
  rw [h.eq, e, mxA_nil, h.hO, e]
theorem Dk.file2 {w w' : World} {d bf bs : Nat} {m : M} {T : Nat → Prop} {V : Nat → Value × Value} (h : Dk w d m T bf bs V) {g q : Nat} (hg : g ∈ m.ids) (hq : ¬ T q) (hql : q < w.heap.size) {v1 v2 : Value} {l1 l2 : List Int} (hb : But (fun x => x = g ∨ x = q) w w') (hx : Bx w' g 82 #[v1, v2])
    (o1 : w'.ownsRow 0 5 1 v1 l1.length (u8s l1)) (o2 : w'.ownsRow 0 5 1 v2 l2.length (u8s l2)) (b1 : Byt l1) (b2 : Byt l2)
    (k1 : ∀ k, v1.ownBlock = some k → w.heap.size ≤ k) (k2 : ∀ k, v2.ownBlock = some k → w.heap.size ≤ k) (k3 : ∀ k, v1.ownBlock = some k → v2.ownBlock ≠ some k) :
    Dk w' d { m with ct := upd m.ct g (l1, l2) } (fun x => T x ∨ v1.ownBlock = some x ∨ v2.ownBlock = some x) bf bs (updV V g (v1, v2)) := by
  have hql' : q < w'.heap.size := Nat.lt_of_lt_of_le hql hb.size
  let ww : World := { w with heap := w.heap.setIfInBounds q w'.heap[q] }
  have hsz : ww.heap.size = w.heap.size := by simp [ww]
  have hB1 : But (fun x => x = q) w ww := ⟨rfl, rfl, rfl, by rw [hsz]; exact Nat.le_refl _, fun k hk hn => by
    have hne : ¬ q = k := fun e => hn e.symm
    simp [ww, Array.getElem?_setIfInBounds, hne]⟩
  have K := h.kept hB1 (fun x e => by rw [e]; exact hq)
  have hB2 : But (fun x => x = g ∨ (V g).1.ownBlock = some x) ww w' := ⟨hb.os, hb.tape, hb.output, by rw [hsz]; exact hb.size, fun k hk hn => by
    rw [hsz] at hk
    by_cases e : k = q
    · subst e
      simp [ww, hql, hql']
    · rw [hb.block k hk (fun f => by rcases f with f | f; exact hn (.inl f); exact e f)]
      have hne : ¬ q = k := fun f => e f.symm
      simp [ww, Array.getElem?_setIfInBounds, hne]⟩
  have R := K.file hg hB2 hx o1 o2 b1 b2 (fun k hk => .inr (by rw [hsz]; exact k1 k hk)) (fun k hk => .inr (by rw [hsz]; exact k2 k hk)) k3
  refine ⟨R.dk, R.mf, R.ms, R.ne, .inl h.td, .inl h.tf, .inl h.ts, fun x hx' => ?_, R.fl, R.byt, R.s1, R.s2, R.vf, R.vs, fun x hx' => ?_⟩
  · by_cases e : x = g
    · simp only [updV, if_pos e]
      exact ⟨.inl (h.ti x hx').1, fun k hk => .inr (.inl hk), fun k hk => .inr (.inr hk)⟩
    · simp only [updV, if_neg e]
      exact ⟨.inl (h.ti x hx').1, fun k hk => .inl ((h.ti x hx').2.1 k hk), fun k hk => .inl ((h.ti x hx').2.2 k hk)⟩
  · rcases hx' with hx' | hx' | hx'
    · exact Nat.lt_of_lt_of_le (h.lt x hx') hb.size
    · exact (o1.lt x hx').2
    · exact (o2.lt x hx').2
theorem rw_owns {w : World} {r : Nat} {l : List Int} (h : Rw w r l) (hm : l.length ≤ maxLen) : w.ownsRow 0 5 1 (.slice (some ⟨r, 0, none⟩) l.length l.length) l.length (u8s l) :=
  ⟨by simp, .inr ⟨r, l.length, _, rfl, Nat.zero_le _, h, Nat.le_refl _, hm, by simp, by simp [u8s, List.take_of_length_le]⟩⟩
end Go.Proofs.Ytgbijkdfhkkieaa
