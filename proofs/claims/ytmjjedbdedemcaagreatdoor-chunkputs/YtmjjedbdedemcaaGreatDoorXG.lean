/-
  Values: differences put.
-/
import Derived.Test.YtmjjedbdedemcaaGreatDoorXD
namespace Go.Proofs.YtmjjedbdedemcaaGreatDoor
open Go.RowKit
set_option linter.unusedVariables false

set_option linter.unusedSimpArgs false

theorem put1 {w : World} {base p A n0 : Nat} {v : Value} (h : Wr w base p v A n0) {g : Nat} {x0i s0i : Int} {x0 s0 : Nat} (hB : Bx w g 151 #[.int .u64 x0i, .int .i64 s0i]) (hg : ¬ fp p v g) (ex0 : x0i = (x0 : Int)) (es0 : s0i = (s0 : Int)) (hs0 : s0 ≤ 64) (hx0 : x0 < 18446744073709551616) (hroom : n0 + (s0) ≤ 524288) :
    Calls Tryz.prog 93 #[.pointer (some ⟨p, 0, none⟩), .slice (some ⟨g, 0, none⟩) 1 1] w fun e w' => e = .returned (.int .i64 0) ∧ ∃ v', Wr w' base p v' (A * 2 ^ (s0) + (x0 % 2 ^ s0)) (n0 + (s0)) ∧ Did w w' base p v v' := by
  have hN : Nums w g 1 (fun j => [x0].getD j 0) (fun j => [s0].getD j 0) := by
    refine ⟨hB.lt, fun j hj => ?_, fun j hj => ?_⟩
    · rcases (show j = 0 by omega) with rfl <;> (rw [cell_of_row w g _ _ 151 (0, 0) hB]; simp [ex0])
    · rcases (show j = 0 by omega) with rfl <;> (rw [cell_of_row w g _ _ 151 (0, 0) hB]; simp [es0])
  have eP : posP (fun j => [s0].getD j 0) 1 = s0 := by simp [posP]
  have eN : numP (fun j => [s0].getD j 0) (fun j => [x0].getD j 0) 1 = x0 % 2 ^ s0 := by simp [numP]
  have := put_anyX h hN hg (fun j hj => by rcases (show j = 0 by omega) with rfl <;> simpa) (fun j hj => by rcases (show j = 0 by omega) with rfl <;> simpa) (by rw [eP]; exact hroom) (by decide)
  rw [eP, eN] at this
  exact this

theorem put2 {w : World} {base p A n0 : Nat} {v : Value} (h : Wr w base p v A n0) {g : Nat} {x0i x1i s0i s1i : Int} {x0 x1 s0 s1 : Nat} (hB : Bx w g 151 #[.int .u64 x0i, .int .i64 s0i, .int .u64 x1i, .int .i64 s1i]) (hg : ¬ fp p v g) (ex0 : x0i = (x0 : Int)) (es0 : s0i = (s0 : Int)) (hs0 : s0 ≤ 64) (hx0 : x0 < 18446744073709551616) (ex1 : x1i = (x1 : Int)) (es1 : s1i = (s1 : Int)) (hs1 : s1 ≤ 64) (hx1 : x1 < 18446744073709551616) (hroom : n0 + (s0 + s1) ≤ 524288) :
    Calls Tryz.prog 93 #[.pointer (some ⟨p, 0, none⟩), .slice (some ⟨g, 0, none⟩) 2 2] w fun e w' => e = .returned (.int .i64 0) ∧ ∃ v', Wr w' base p v' (A * 2 ^ (s0 + s1) + ((x0 % 2 ^ s0) * 2 ^ s1 + x1 % 2 ^ s1)) (n0 + (s0 + s1)) ∧ Did w w' base p v v' := by
  have hN : Nums w g 2 (fun j => [x0, x1].getD j 0) (fun j => [s0, s1].getD j 0) := by
    refine ⟨hB.lt, fun j hj => ?_, fun j hj => ?_⟩
    · rcases (show j = 0 ∨ j = 1 by omega) with rfl | rfl <;> (rw [cell_of_row w g _ _ 151 (0, 0) hB]; simp [ex0, ex1])
    · rcases (show j = 0 ∨ j = 1 by omega) with rfl | rfl <;> (rw [cell_of_row w g _ _ 151 (0, 0) hB]; simp [es0, es1])
  have eP : posP (fun j => [s0, s1].getD j 0) 2 = s0 + s1 := by simp [posP]
  have eN : numP (fun j => [s0, s1].getD j 0) (fun j => [x0, x1].getD j 0) 2 = (x0 % 2 ^ s0) * 2 ^ s1 + x1 % 2 ^ s1 := by simp [numP]
  have := put_anyX h hN hg (fun j hj => by rcases (show j = 0 ∨ j = 1 by omega) with rfl | rfl <;> simpa) (fun j hj => by rcases (show j = 0 ∨ j = 1 by omega) with rfl | rfl <;> simpa) (by rw [eP]; exact hroom) (by decide)
  rw [eP, eN] at this
  exact this

theorem put4 {w : World} {base p A n0 : Nat} {v : Value} (h : Wr w base p v A n0) {g : Nat} {x0i x1i x2i x3i s0i s1i s2i s3i : Int} {x0 x1 x2 x3 s0 s1 s2 s3 : Nat} (hB : Bx w g 151 #[.int .u64 x0i, .int .i64 s0i, .int .u64 x1i, .int .i64 s1i, .int .u64 x2i, .int .i64 s2i, .int .u64 x3i, .int .i64 s3i]) (hg : ¬ fp p v g) (ex0 : x0i = (x0 : Int)) (es0 : s0i = (s0 : Int)) (hs0 : s0 ≤ 64) (hx0 : x0 < 18446744073709551616) (ex1 : x1i = (x1 : Int)) (es1 : s1i = (s1 : Int)) (hs1 : s1 ≤ 64) (hx1 : x1 < 18446744073709551616) (ex2 : x2i = (x2 : Int)) (es2 : s2i = (s2 : Int)) (hs2 : s2 ≤ 64) (hx2 : x2 < 18446744073709551616) (ex3 : x3i = (x3 : Int)) (es3 : s3i = (s3 : Int)) (hs3 : s3 ≤ 64) (hx3 : x3 < 18446744073709551616) (hroom : n0 + (s0 + s1 + s2 + s3) ≤ 524288) :
    Calls Tryz.prog 93 #[.pointer (some ⟨p, 0, none⟩), .slice (some ⟨g, 0, none⟩) 4 4] w fun e w' => e = .returned (.int .i64 0) ∧ ∃ v', Wr w' base p v' (A * 2 ^ (s0 + s1 + s2 + s3) + ((((x0 % 2 ^ s0) * 2 ^ s1 + x1 % 2 ^ s1) * 2 ^ s2 + x2 % 2 ^ s2) * 2 ^ s3 + x3 % 2 ^ s3)) (n0 + (s0 + s1 + s2 + s3)) ∧ Did w w' base p v v' := by
  have hN : Nums w g 4 (fun j => [x0, x1, x2, x3].getD j 0) (fun j => [s0, s1, s2, s3].getD j 0) := by
    refine ⟨hB.lt, fun j hj => ?_, fun j hj => ?_⟩
    · rcases (show j = 0 ∨ j = 1 ∨ j = 2 ∨ j = 3 by omega) with rfl | rfl | rfl | rfl <;> (rw [cell_of_row w g _ _ 151 (0, 0) hB]; simp [ex0, ex1, ex2, ex3])
    · rcases (show j = 0 ∨ j = 1 ∨ j = 2 ∨ j = 3 by omega) with rfl | rfl | rfl | rfl <;> (rw [cell_of_row w g _ _ 151 (0, 0) hB]; simp [es0, es1, es2, es3])
  have eP : posP (fun j => [s0, s1, s2, s3].getD j 0) 4 = s0 + s1 + s2 + s3 := by simp [posP]
  have eN : numP (fun j => [s0, s1, s2, s3].getD j 0) (fun j => [x0, x1, x2, x3].getD j 0) 4 = (((x0 % 2 ^ s0) * 2 ^ s1 + x1 % 2 ^ s1) * 2 ^ s2 + x2 % 2 ^ s2) * 2 ^ s3 + x3 % 2 ^ s3 := by simp [numP]
  have := put_anyX h hN hg (fun j hj => by rcases (show j = 0 ∨ j = 1 ∨ j = 2 ∨ j = 3 by omega) with rfl | rfl | rfl | rfl <;> simpa) (fun j hj => by rcases (show j = 0 ∨ j = 1 ∨ j = 2 ∨ j = 3 by omega) with rfl | rfl | rfl | rfl <;> simpa) (by rw [eP]; exact hroom) (by decide)
  rw [eP, eN] at this
  exact this

set_option maxRecDepth 100000 in
set_option maxHeartbeats 4000000 in
theorem wd0 {w : World} {base p A n0 : Nat} {v : Value} (h : Wr w base p v A n0) {a b s x y : Nat} (hab : a + b ≤ 64) (hs : s = 0) (hx : x < 18446744073709551616) (hy : x / 2 ^ b = y) (hroom : n0 + 1 ≤ 524288) :
    Calls Tryz.prog 95 #[.pointer (some ⟨p, 0, none⟩), .agg #[.int .i64 0, .int .i64 (a : Int), .int .i64 (b : Int)], .int .u64 (x : Int)] w fun e w' => e = .returned (.int .i64 0) ∧ ∃ v', Wr w' base p v' (A * 2 ^ 1 + (0 % 2 ^ 1)) (n0 + 1) ∧ Did w w' base p v v' := by
  have X0 := hide (Bx.new w 153 #[.int .i64 0, .int .i64 (a : Int), .int .i64 (b : Int)])
  have B0 : Hid (Below w.heap.size w (w.alloc (.cells #[.int .i64 0, .int .i64 (a : Int), .int .i64 (b : Int)] 153))) := (Below.refl _ w).alloc (Nat.le_refl _) _
  have SZ := hide (fun w => size_anyX 0 (a : Int) (b : Int) (s : Int) w (by omega) (by omega) (by rw [if_pos rfl]; omega))
  have hyI : (x : Int) / 2 ^ b = (y : Int) := by rw [← hy]; simp
  have hy64 := hide (show y < 18446744073709551616 by rw [← hy]; exact Nat.lt_of_le_of_lt (Nat.div_le_self _ _) hx)
  have hs64 := hide (show s ≤ 64 by omega)
  have hmin : min b 64 = b := by omega
  have hbI : (b : Int) ≤ 64 := by omega
  have ha := hide (show a ≤ 64 by omega)
  replace h := hide h
  replace hroom := hide hroom
  clear hy hs hab hx
  go_enter Tryz.func95, Tryz.ntmps95
  go_wp2_with fail
  refine wp_region_noPanic ?_
  refine wp_region_held_drew (S := (fun w' => w'.cell? ⟨w.heap.size, 0, none⟩ = some (.int .i64 0) ∧ w'.cell? ⟨w.heap.size, 1, none⟩ = some (.int .i64 (a : Int)) ∧ w'.cell? ⟨w.heap.size, 2, none⟩ = some (.int .i64 (b : Int)))) (by kernel_rfl) ⟨X0.out.st3.c0, X0.out.st3.c1, X0.out.st3.c2⟩ (fun hH0 => ?_)
  refine wpAnyH_take (i := 0) (oi := { dst := some 8, op := Op.move (Operand.tmp 2), type := 31, pos := "xor.go:138", after := #[], guard := none }) (v := ?_) rfl (by kernel_rfl) (by kernel_rfl) (by kernel_rfl) (fun _ _ _ h => h) (Or.inl ⟨by rfl, ?_⟩) hH0 ?_
  rotate_left
  · intro w' hw'
    obtain ⟨c0, c1, c2⟩ := hw'
    go_simp
    try with_reducible rfl
  try simp only [Act.put, List.setIfInBounds_toArray, List.set_cons_zero, List.set_cons_succ]
  refine wpAnyH_take (i := 1) (oi := { dst := some 9, op := Op.fieldAddr 153 (Operand.tmp 4) 1, type := 0, pos := "xor.go:138", after := #[], guard := none }) (v := ?_) rfl (by kernel_rfl) (by kernel_rfl) (by kernel_rfl) (fun _ _ _ h => h) (Or.inl ⟨by rfl, ?_⟩) hH0 ?_
  rotate_left
  · intro w' hw'
    obtain ⟨c0, c1, c2⟩ := hw'
    go_simp
    try with_reducible rfl
  try simp only [Act.put, List.setIfInBounds_toArray, List.set_cons_zero, List.set_cons_succ]
  refine wpAnyH_take (i := 2) (oi := { dst := some 10, op := Op.fieldAddr 116 (Operand.tmp 9) 1, type := 0, pos := "xor.go:138", after := #[{ on := 1, ground := Ground.data }], guard := none }) (v := ?_) rfl (by kernel_rfl) (by kernel_rfl) (by kernel_rfl) (fun _ _ _ h => h) (Or.inl ⟨by rfl, ?_⟩) hH0 ?_
  rotate_left
  · intro w' hw'
    obtain ⟨c0, c1, c2⟩ := hw'
    go_simp
    try with_reducible rfl
  try simp only [Act.put, List.setIfInBounds_toArray, List.set_cons_zero, List.set_cons_succ]
  refine wpAnyH_take (i := 3) (oi := { dst := some 11, op := Op.load 3 (Operand.tmp 10), type := 3, pos := "xor.go:138", after := #[{ on := 2, ground := Ground.data }], guard := none }) (v := ?_) rfl (by kernel_rfl) (by kernel_rfl) (by kernel_rfl) (fun _ _ _ h => h) (Or.inl ⟨by rfl, ?_⟩) hH0 ?_
  rotate_left
  · intro w' hw'
    obtain ⟨c0, c1, c2⟩ := hw'
    go_simp
    try with_reducible rfl
  try simp only [Act.put, List.setIfInBounds_toArray, List.set_cons_zero, List.set_cons_succ]
  refine wpAnyH_take (i := 4) (oi := { dst := some 12, op := Op.binOp BinOp.shr 31 (Operand.tmp 8) (Operand.tmp 11) 3, type := 31, pos := "xor.go:138", after := #[{ on := 0, ground := Ground.data }, { on := 3, ground := Ground.data }], guard := none }) (v := ?_) rfl (by kernel_rfl) (by kernel_rfl) (by kernel_rfl) (fun _ _ _ h => h) (Or.inl ⟨by rfl, ?_⟩) hH0 ?_
  rotate_left
  · intro w' hw'
    obtain ⟨c0, c1, c2⟩ := hw'
    go_simp
    try with_reducible rfl
  try simp only [Act.put, List.setIfInBounds_toArray, List.set_cons_zero, List.set_cons_succ]
  refine wpAnyH_take (i := 5) (oi := { dst := some 13, op := Op.load 153 (Operand.tmp 4), type := 153, pos := "xor.go:138", after := #[], guard := none }) (v := ?_) rfl (by kernel_rfl) (by kernel_rfl) (by kernel_rfl) (fun _ _ _ h => h) (Or.inl ⟨by rfl, ?_⟩) hH0 ?_
  rotate_left
  · intro w' hw'
    obtain ⟨c0, c1, c2⟩ := hw'
    go_simp
    try with_reducible rfl
  try simp only [Act.put, List.setIfInBounds_toArray, List.set_cons_zero, List.set_cons_succ]
  refine wpAnyH_ready (rs := [6, 8]) (by kernel_rfl) (by simp) ?_
  refine AllReadyH.cons (o := { dst := some 14, op := Op.call { callee := Callee.value (Operand.func 103), args := #[Operand.tmp 13], argTypes := #[153] }, type := 3, pos := "xor.go:138", after := #[{ on := 5, ground := Ground.data }], guard := none }) rfl (fun K hK => ?_) (AllReadyH.cons (o := { dst := some 7, op := Op.alloc 151, type := 0, pos := "xor.go:138", after := #[], guard := none }) rfl (fun K hK => ?_) AllReadyH.nil)
  · go_simp
    refine (SZ.out _).mono ?_
    rintro e w2 ⟨rfl, b2⟩
    have X2 := hide (X0.out.drew.below b2)
    have b2' := hide ((below_drew B0.out).trans (b2.mono (by simp [World.drew])))
    refine hK.out _ _ ⟨X2.out.st3.c0, X2.out.st3.c1, X2.out.st3.c2⟩ (fun hH1 => ?_)
    clear hK
    try simp only [Act.put, List.setIfInBounds_toArray, List.set_cons_zero, List.set_cons_succ]
    refine wpAnyH_take (i := 7) (oi := { dst := some 15, op := Op.build 151 #[(0, Operand.tmp 12), (1, Operand.tmp 14)], type := 151, pos := "xor.go:138", after := #[{ on := 4, ground := Ground.data }, { on := 6, ground := Ground.data }], guard := none }) (v := ?_) rfl (by kernel_rfl) (by kernel_rfl) (by kernel_rfl) (fun _ _ _ h => h) (Or.inl ⟨by rfl, ?_⟩) hH1 ?_
    rotate_left
    · intro w' hw'
      obtain ⟨c0, c1, c2⟩ := hw'
      go_simp
      try with_reducible rfl
    try simp only [Act.put, List.setIfInBounds_toArray, List.set_cons_zero, List.set_cons_succ]
    refine wpAnyH_ready (rs := [8]) (by kernel_rfl) (by simp) ?_
    refine AllReadyH.cons (o := { dst := some 7, op := Op.alloc 151, type := 0, pos := "xor.go:138", after := #[], guard := none }) rfl (fun K hK => ?_) AllReadyH.nil
    go_simp
    refine hK.out _ _ ⟨(X2.out.alloc (.cells #[.int .u64 0, .int .i64 0] 151)).st3.c0, (X2.out.alloc (.cells #[.int .u64 0, .int .i64 0] 151)).st3.c1, (X2.out.alloc (.cells #[.int .u64 0, .int .i64 0] 151)).st3.c2⟩ (fun hH2 => ?_)
    clear hK
    try simp only [Act.put, List.setIfInBounds_toArray, List.set_cons_zero, List.set_cons_succ]
    refine wpAnyH_ready (rs := [9]) (by kernel_rfl) (by simp) ?_
    refine AllReadyH.cons (o := { dst := none, op := Op.store 151 (Operand.tmp 7) (Operand.tmp 15), type := 0, pos := "xor.go:138", after := #[{ on := 8, ground := Ground.data }, { on := 7, ground := Ground.data }, { on := 6, ground := Ground.chain }, { on := 0, ground := Ground.phase }, { on := 1, ground := Ground.phase }, { on := 2, ground := Ground.phase }, { on := 3, ground := Ground.phase }, { on := 4, ground := Ground.phase }, { on := 5, ground := Ground.phase }, { on := 6, ground := Ground.phase }, { on := 7, ground := Ground.phase }, { on := 8, ground := Ground.phase }], guard := none }) rfl (fun K hK => ?_) AllReadyH.nil
    go_simp
    refine hK.out _ _ ⟨(X2.out.alloc (.cells #[.int .u64 (y : Int), .int .i64 (s : Int)] 151)).st3.c0, (X2.out.alloc (.cells #[.int .u64 (y : Int), .int .i64 (s : Int)] 151)).st3.c1, (X2.out.alloc (.cells #[.int .u64 (y : Int), .int .i64 (s : Int)] 151)).st3.c2⟩ (fun hH3 => ?_)
    clear hK
    try simp only [Act.put, List.setIfInBounds_toArray, List.set_cons_zero, List.set_cons_succ]
    refine wpAnyH_done (by kernel_rfl) ?_ _
    refine NoPanic.normal ?_
    have X4 := hide (X2.out.alloc (.cells #[.int .u64 (y : Int), .int .i64 (s : Int)] 151))
    have Y4 := hide (Bx.new w2 151 #[.int .u64 (y : Int), .int .i64 (s : Int)])
    have b4 := hide (b2'.out.alloc b2'.out.size (.cells #[.int .u64 (y : Int), .int .i64 (s : Int)] 151))
    generalize w2.alloc (.cells #[.int .u64 (y : Int), .int .i64 (s : Int)] 151) = w4 at *
    generalize w2.heap.size = gO at *
    have W4 := hide (h.out.below b4.out (Nat.le_refl _))
    have D4 := hide (Did.pre b4.out (Did.refl w4 base p v) (by have := h.out.lt; omega))
    clear hH0 hH1 hH2 hH3 X2 X0 B0 h b2 b2' SZ b4
    have X5 := X4.out.st3
    have q0 := X5.c0
    have q1 := X5.c1
    have q2 := X5.c2
    have y0 := Y4.out.st2.c0
    have y1 := Y4.out.st2.c1
    clear X5
    have B5 := (Below.refl w4.heap.size w4).alloc (Nat.le_refl _) (.cells #[.int .u64 0, .int .i64 1] 151)
    have P := hide (put1 (x0 := 0) (s0 := 1) (W4.out.below B5 (Nat.le_refl _)) (Bx.new w4 151 #[.int .u64 0, .int .i64 1]) (W4.out.not (Nat.le_refl _)) rfl rfl (by decide) (by decide) (by have := hroom.out; omega))
    have D5 := hide (D4.out.post B5 (by have := W4.out.lt; omega))
    clear B5
    go_wp2_with fail
    refine P.out.mono ?_
    rintro e w6 ⟨rfl, v6, W6, D6⟩
    replace W6 := hide W6
    have D7 := hide (D5.out.trans D6)
    clear P D5 D6 W4 D4 X4 Y4 q0 q1 q2 y0 y1
    go_wp2_with fail
    go_ret
    exact ⟨rfl, v6, W6.out, D7.out⟩
  · go_simp
    refine hK.out _ _ ⟨(X0.out.alloc (.cells #[.int .u64 0, .int .i64 0] 151)).st3.c0, (X0.out.alloc (.cells #[.int .u64 0, .int .i64 0] 151)).st3.c1, (X0.out.alloc (.cells #[.int .u64 0, .int .i64 0] 151)).st3.c2⟩ (fun hH1 => ?_)
    clear hK
    try simp only [Act.put, List.setIfInBounds_toArray, List.set_cons_zero, List.set_cons_succ]
    refine wpAnyH_ready (rs := [6]) (by kernel_rfl) (by simp) ?_
    refine AllReadyH.cons (o := { dst := some 14, op := Op.call { callee := Callee.value (Operand.func 103), args := #[Operand.tmp 13], argTypes := #[153] }, type := 3, pos := "xor.go:138", after := #[{ on := 5, ground := Ground.data }], guard := none }) rfl (fun K hK => ?_) AllReadyH.nil
    go_simp
    refine (SZ.out _).mono ?_
    rintro e w2 ⟨rfl, b2⟩
    have X1 := hide (X0.out.drew.alloc (.cells #[.int .u64 0, .int .i64 0] 151))
    have Y1 := hide (Bx.new (w.alloc (.cells #[.int .i64 0, .int .i64 (a : Int), .int .i64 (b : Int)] 153)).drew 151 #[.int .u64 0, .int .i64 0])
    have b1 : Hid (Below w.heap.size w ((w.alloc (.cells #[.int .i64 0, .int .i64 (a : Int), .int .i64 (b : Int)] 153)).drew.alloc (.cells #[.int .u64 0, .int .i64 0] 151))) := (below_drew B0.out).alloc (by simp [World.drew]) _
    have X2 := hide (X1.out.below b2)
    have Y2 := hide (Y1.out.below b2)
    have b2' := hide (b1.out.trans (b2.mono b1.out.size))
    have hgO : Hid (w.heap.size ≤ (w.alloc (.cells #[.int .i64 0, .int .i64 (a : Int), .int .i64 (b : Int)] 153)).drew.heap.size ∧ (w.alloc (.cells #[.int .i64 0, .int .i64 (a : Int), .int .i64 (b : Int)] 153)).drew.heap.size ≠ w.heap.size) := by constructor <;> simp [World.drew]
    have hge : Hid ((w.alloc (.cells #[.int .i64 0, .int .i64 (a : Int), .int .i64 (b : Int)] 153)).drew.heap.size = w.heap.size + 1) := by show _ = _; simp [World.drew]
    rw [hge.out] at Y2 hgO
    refine hK.out _ _ ⟨X2.out.st3.c0, X2.out.st3.c1, X2.out.st3.c2⟩ (fun hH2 => ?_)
    clear hK
    try simp only [Act.put, List.setIfInBounds_toArray, List.set_cons_zero, List.set_cons_succ]
    refine wpAnyH_take (i := 7) (oi := { dst := some 15, op := Op.build 151 #[(0, Operand.tmp 12), (1, Operand.tmp 14)], type := 151, pos := "xor.go:138", after := #[{ on := 4, ground := Ground.data }, { on := 6, ground := Ground.data }], guard := none }) (v := ?_) rfl (by kernel_rfl) (by kernel_rfl) (by kernel_rfl) (fun _ _ _ h => h) (Or.inl ⟨by rfl, ?_⟩) hH2 ?_
    rotate_left
    · intro w' hw'
      obtain ⟨c0, c1, c2⟩ := hw'
      go_simp
      try with_reducible rfl
    try simp only [Act.put, List.setIfInBounds_toArray, List.set_cons_zero, List.set_cons_succ]
    obtain ⟨f0, f1, f2, f3, f4⟩ := Y2.out.st2
    refine wpAnyH_ready (rs := [9]) (by kernel_rfl) (by simp) ?_
    refine AllReadyH.cons (o := { dst := none, op := Op.store 151 (Operand.tmp 7) (Operand.tmp 15), type := 0, pos := "xor.go:138", after := #[{ on := 8, ground := Ground.data }, { on := 7, ground := Ground.data }, { on := 6, ground := Ground.chain }, { on := 0, ground := Ground.phase }, { on := 1, ground := Ground.phase }, { on := 2, ground := Ground.phase }, { on := 3, ground := Ground.phase }, { on := 4, ground := Ground.phase }, { on := 5, ground := Ground.phase }, { on := 6, ground := Ground.phase }, { on := 7, ground := Ground.phase }, { on := 8, ground := Ground.phase }], guard := none }) rfl (fun K hK => ?_) AllReadyH.nil
    go_simp
    have bt := but_set2 w2 (w.heap.size + 1) (.int .u64 (y : Int)) (.int .i64 (s : Int))
    have X3 := hide (X2.out.but bt (fun e => hgO.out.2 e.symm))
    have Y4 := hide (Y2.out.set2 (.int .u64 (y : Int)) (.int .i64 (s : Int)))
    have b4 := hide (below_set2 (g := w.heap.size + 1) b2'.out (by omega) (.int .u64 (y : Int)) (.int .i64 (s : Int)))
    refine hK.out _ _ ⟨X3.out.st3.c0, X3.out.st3.c1, X3.out.st3.c2⟩ (fun hH3 => ?_)
    clear hK f0 f1 f2 f3 f4 bt
    try simp only [Act.put, List.setIfInBounds_toArray, List.set_cons_zero, List.set_cons_succ]
    refine wpAnyH_done (by kernel_rfl) ?_ _
    refine NoPanic.normal ?_
    have X4 := X3
    generalize ((w2.setCell ⟨w.heap.size + 1, 0, none⟩ (.int .u64 (y : Int))).setCell ⟨w.heap.size + 1, 1, none⟩ (.int .i64 (s : Int))) = w4 at *
    have W4 := hide (h.out.below b4.out (Nat.le_refl _))
    have D4 := hide (Did.pre b4.out (Did.refl w4 base p v) (by have := h.out.lt; omega))
    clear hH0 hH1 hH2 hH3 X3 X2 Y2 X1 Y1 b1 X0 B0 h b2 b2' SZ b4 hgO hge
    have X5 := X4.out.st3
    have q0 := X5.c0
    have q1 := X5.c1
    have q2 := X5.c2
    have y0 := Y4.out.st2.c0
    have y1 := Y4.out.st2.c1
    clear X5
    have B5 := (Below.refl w4.heap.size w4).alloc (Nat.le_refl _) (.cells #[.int .u64 0, .int .i64 1] 151)
    have P := hide (put1 (x0 := 0) (s0 := 1) (W4.out.below B5 (Nat.le_refl _)) (Bx.new w4 151 #[.int .u64 0, .int .i64 1]) (W4.out.not (Nat.le_refl _)) rfl rfl (by decide) (by decide) (by have := hroom.out; omega))
    have D5 := hide (D4.out.post B5 (by have := W4.out.lt; omega))
    clear B5
    go_wp2_with fail
    refine P.out.mono ?_
    rintro e w6 ⟨rfl, v6, W6, D6⟩
    replace W6 := hide W6
    have D7 := hide (D5.out.trans D6)
    clear P D5 D6 W4 D4 X4 Y4 q0 q1 q2 y0 y1
    go_wp2_with fail
    go_ret
    exact ⟨rfl, v6, W6.out, D7.out⟩

set_option maxRecDepth 100000 in
set_option maxHeartbeats 4000000 in
theorem wd2 {w : World} {base p A n0 : Nat} {v : Value} (h : Wr w base p v A n0) {a b s x y : Nat} (hab : a + b ≤ 64) (hs : s = 64 - a - b) (hx : x < 18446744073709551616) (hy : x / 2 ^ b = y) (hroom : n0 + (2 + s) ≤ 524288) :
    Calls Tryz.prog 95 #[.pointer (some ⟨p, 0, none⟩), .agg #[.int .i64 2, .int .i64 (a : Int), .int .i64 (b : Int)], .int .u64 (x : Int)] w fun e w' => e = .returned (.int .i64 0) ∧ ∃ v', Wr w' base p v' (A * 2 ^ (2 + s) + ((2 % 2 ^ 2) * 2 ^ s + y % 2 ^ s)) (n0 + (2 + s)) ∧ Did w w' base p v v' := by
  have X0 := hide (Bx.new w 153 #[.int .i64 2, .int .i64 (a : Int), .int .i64 (b : Int)])
  have B0 : Hid (Below w.heap.size w (w.alloc (.cells #[.int .i64 2, .int .i64 (a : Int), .int .i64 (b : Int)] 153))) := (Below.refl _ w).alloc (Nat.le_refl _) _
  have SZ := hide (fun w => size_anyX 2 (a : Int) (b : Int) (s : Int) w (by omega) (by omega) (by rw [if_neg (by decide)]; omega))
  have hyI : (x : Int) / 2 ^ b = (y : Int) := by rw [← hy]; simp
  have hy64 := hide (show y < 18446744073709551616 by rw [← hy]; exact Nat.lt_of_le_of_lt (Nat.div_le_self _ _) hx)
  have hs64 := hide (show s ≤ 64 by omega)
  have hmin : min b 64 = b := by omega
  have hbI : (b : Int) ≤ 64 := by omega
  have ha := hide (show a ≤ 64 by omega)
  replace h := hide h
  replace hroom := hide hroom
  clear hy hs hab hx
  go_enter Tryz.func95, Tryz.ntmps95
  go_wp2_with fail
  refine wp_region_noPanic ?_
  refine wp_region_held_drew (S := (fun w' => w'.cell? ⟨w.heap.size, 0, none⟩ = some (.int .i64 2) ∧ w'.cell? ⟨w.heap.size, 1, none⟩ = some (.int .i64 (a : Int)) ∧ w'.cell? ⟨w.heap.size, 2, none⟩ = some (.int .i64 (b : Int)))) (by kernel_rfl) ⟨X0.out.st3.c0, X0.out.st3.c1, X0.out.st3.c2⟩ (fun hH0 => ?_)
  refine wpAnyH_take (i := 0) (oi := { dst := some 8, op := Op.move (Operand.tmp 2), type := 31, pos := "xor.go:138", after := #[], guard := none }) (v := ?_) rfl (by kernel_rfl) (by kernel_rfl) (by kernel_rfl) (fun _ _ _ h => h) (Or.inl ⟨by rfl, ?_⟩) hH0 ?_
  rotate_left
  · intro w' hw'
    obtain ⟨c0, c1, c2⟩ := hw'
    go_simp
    try with_reducible rfl
  try simp only [Act.put, List.setIfInBounds_toArray, List.set_cons_zero, List.set_cons_succ]
  refine wpAnyH_take (i := 1) (oi := { dst := some 9, op := Op.fieldAddr 153 (Operand.tmp 4) 1, type := 0, pos := "xor.go:138", after := #[], guard := none }) (v := ?_) rfl (by kernel_rfl) (by kernel_rfl) (by kernel_rfl) (fun _ _ _ h => h) (Or.inl ⟨by rfl, ?_⟩) hH0 ?_
  rotate_left
  · intro w' hw'
    obtain ⟨c0, c1, c2⟩ := hw'
    go_simp
    try with_reducible rfl
  try simp only [Act.put, List.setIfInBounds_toArray, List.set_cons_zero, List.set_cons_succ]
  refine wpAnyH_take (i := 2) (oi := { dst := some 10, op := Op.fieldAddr 116 (Operand.tmp 9) 1, type := 0, pos := "xor.go:138", after := #[{ on := 1, ground := Ground.data }], guard := none }) (v := ?_) rfl (by kernel_rfl) (by kernel_rfl) (by kernel_rfl) (fun _ _ _ h => h) (Or.inl ⟨by rfl, ?_⟩) hH0 ?_
  rotate_left
  · intro w' hw'
    obtain ⟨c0, c1, c2⟩ := hw'
    go_simp
    try with_reducible rfl
  try simp only [Act.put, List.setIfInBounds_toArray, List.set_cons_zero, List.set_cons_succ]
  refine wpAnyH_take (i := 3) (oi := { dst := some 11, op := Op.load 3 (Operand.tmp 10), type := 3, pos := "xor.go:138", after := #[{ on := 2, ground := Ground.data }], guard := none }) (v := ?_) rfl (by kernel_rfl) (by kernel_rfl) (by kernel_rfl) (fun _ _ _ h => h) (Or.inl ⟨by rfl, ?_⟩) hH0 ?_
  rotate_left
  · intro w' hw'
    obtain ⟨c0, c1, c2⟩ := hw'
    go_simp
    try with_reducible rfl
  try simp only [Act.put, List.setIfInBounds_toArray, List.set_cons_zero, List.set_cons_succ]
  refine wpAnyH_take (i := 4) (oi := { dst := some 12, op := Op.binOp BinOp.shr 31 (Operand.tmp 8) (Operand.tmp 11) 3, type := 31, pos := "xor.go:138", after := #[{ on := 0, ground := Ground.data }, { on := 3, ground := Ground.data }], guard := none }) (v := ?_) rfl (by kernel_rfl) (by kernel_rfl) (by kernel_rfl) (fun _ _ _ h => h) (Or.inl ⟨by rfl, ?_⟩) hH0 ?_
  rotate_left
  · intro w' hw'
    obtain ⟨c0, c1, c2⟩ := hw'
    go_simp
    try with_reducible rfl
  try simp only [Act.put, List.setIfInBounds_toArray, List.set_cons_zero, List.set_cons_succ]
  refine wpAnyH_take (i := 5) (oi := { dst := some 13, op := Op.load 153 (Operand.tmp 4), type := 153, pos := "xor.go:138", after := #[], guard := none }) (v := ?_) rfl (by kernel_rfl) (by kernel_rfl) (by kernel_rfl) (fun _ _ _ h => h) (Or.inl ⟨by rfl, ?_⟩) hH0 ?_
  rotate_left
  · intro w' hw'
    obtain ⟨c0, c1, c2⟩ := hw'
    go_simp
    try with_reducible rfl
  try simp only [Act.put, List.setIfInBounds_toArray, List.set_cons_zero, List.set_cons_succ]
  refine wpAnyH_ready (rs := [6, 8]) (by kernel_rfl) (by simp) ?_
  refine AllReadyH.cons (o := { dst := some 14, op := Op.call { callee := Callee.value (Operand.func 103), args := #[Operand.tmp 13], argTypes := #[153] }, type := 3, pos := "xor.go:138", after := #[{ on := 5, ground := Ground.data }], guard := none }) rfl (fun K hK => ?_) (AllReadyH.cons (o := { dst := some 7, op := Op.alloc 151, type := 0, pos := "xor.go:138", after := #[], guard := none }) rfl (fun K hK => ?_) AllReadyH.nil)
  · go_simp
    refine (SZ.out _).mono ?_
    rintro e w2 ⟨rfl, b2⟩
    have X2 := hide (X0.out.drew.below b2)
    have b2' := hide ((below_drew B0.out).trans (b2.mono (by simp [World.drew])))
    refine hK.out _ _ ⟨X2.out.st3.c0, X2.out.st3.c1, X2.out.st3.c2⟩ (fun hH1 => ?_)
    clear hK
    try simp only [Act.put, List.setIfInBounds_toArray, List.set_cons_zero, List.set_cons_succ]
    refine wpAnyH_take (i := 7) (oi := { dst := some 15, op := Op.build 151 #[(0, Operand.tmp 12), (1, Operand.tmp 14)], type := 151, pos := "xor.go:138", after := #[{ on := 4, ground := Ground.data }, { on := 6, ground := Ground.data }], guard := none }) (v := ?_) rfl (by kernel_rfl) (by kernel_rfl) (by kernel_rfl) (fun _ _ _ h => h) (Or.inl ⟨by rfl, ?_⟩) hH1 ?_
    rotate_left
    · intro w' hw'
      obtain ⟨c0, c1, c2⟩ := hw'
      go_simp
      try with_reducible rfl
    try simp only [Act.put, List.setIfInBounds_toArray, List.set_cons_zero, List.set_cons_succ]
    refine wpAnyH_ready (rs := [8]) (by kernel_rfl) (by simp) ?_
    refine AllReadyH.cons (o := { dst := some 7, op := Op.alloc 151, type := 0, pos := "xor.go:138", after := #[], guard := none }) rfl (fun K hK => ?_) AllReadyH.nil
    go_simp
    refine hK.out _ _ ⟨(X2.out.alloc (.cells #[.int .u64 0, .int .i64 0] 151)).st3.c0, (X2.out.alloc (.cells #[.int .u64 0, .int .i64 0] 151)).st3.c1, (X2.out.alloc (.cells #[.int .u64 0, .int .i64 0] 151)).st3.c2⟩ (fun hH2 => ?_)
    clear hK
    try simp only [Act.put, List.setIfInBounds_toArray, List.set_cons_zero, List.set_cons_succ]
    refine wpAnyH_ready (rs := [9]) (by kernel_rfl) (by simp) ?_
    refine AllReadyH.cons (o := { dst := none, op := Op.store 151 (Operand.tmp 7) (Operand.tmp 15), type := 0, pos := "xor.go:138", after := #[{ on := 8, ground := Ground.data }, { on := 7, ground := Ground.data }, { on := 6, ground := Ground.chain }, { on := 0, ground := Ground.phase }, { on := 1, ground := Ground.phase }, { on := 2, ground := Ground.phase }, { on := 3, ground := Ground.phase }, { on := 4, ground := Ground.phase }, { on := 5, ground := Ground.phase }, { on := 6, ground := Ground.phase }, { on := 7, ground := Ground.phase }, { on := 8, ground := Ground.phase }], guard := none }) rfl (fun K hK => ?_) AllReadyH.nil
    go_simp
    refine hK.out _ _ ⟨(X2.out.alloc (.cells #[.int .u64 (y : Int), .int .i64 (s : Int)] 151)).st3.c0, (X2.out.alloc (.cells #[.int .u64 (y : Int), .int .i64 (s : Int)] 151)).st3.c1, (X2.out.alloc (.cells #[.int .u64 (y : Int), .int .i64 (s : Int)] 151)).st3.c2⟩ (fun hH3 => ?_)
    clear hK
    try simp only [Act.put, List.setIfInBounds_toArray, List.set_cons_zero, List.set_cons_succ]
    refine wpAnyH_done (by kernel_rfl) ?_ _
    refine NoPanic.normal ?_
    have X4 := hide (X2.out.alloc (.cells #[.int .u64 (y : Int), .int .i64 (s : Int)] 151))
    have Y4 := hide (Bx.new w2 151 #[.int .u64 (y : Int), .int .i64 (s : Int)])
    have b4 := hide (b2'.out.alloc b2'.out.size (.cells #[.int .u64 (y : Int), .int .i64 (s : Int)] 151))
    generalize w2.alloc (.cells #[.int .u64 (y : Int), .int .i64 (s : Int)] 151) = w4 at *
    generalize w2.heap.size = gO at *
    have W4 := hide (h.out.below b4.out (Nat.le_refl _))
    have D4 := hide (Did.pre b4.out (Did.refl w4 base p v) (by have := h.out.lt; omega))
    clear hH0 hH1 hH2 hH3 X2 X0 B0 h b2 b2' SZ b4
    have X5 := X4.out.st3
    have q0 := X5.c0
    have q1 := X5.c1
    have q2 := X5.c2
    have y0 := Y4.out.st2.c0
    have y1 := Y4.out.st2.c1
    clear X5
    have B5 := (Below.refl w4.heap.size w4).alloc (Nat.le_refl _) (.cells #[.int .u64 2, .int .i64 2, .int .u64 (y : Int), .int .i64 (s : Int)] 151)
    have P := hide (put2 (x0 := 2) (s0 := 2) (x1 := y) (s1 := s) (W4.out.below B5 (Nat.le_refl _)) (Bx.new w4 151 #[.int .u64 2, .int .i64 2, .int .u64 (y : Int), .int .i64 (s : Int)]) (W4.out.not (Nat.le_refl _)) rfl rfl (by decide) (by decide) rfl rfl hs64.out hy64.out (by have := hroom.out; omega))
    have D5 := hide (D4.out.post B5 (by have := W4.out.lt; omega))
    clear B5
    go_wp2_with fail
    refine P.out.mono ?_
    rintro e w6 ⟨rfl, v6, W6, D6⟩
    replace W6 := hide W6
    have D7 := hide (D5.out.trans D6)
    clear P D5 D6 W4 D4 X4 Y4 q0 q1 q2 y0 y1
    go_wp2_with fail
    go_ret
    exact ⟨rfl, v6, W6.out, D7.out⟩
  · go_simp
    refine hK.out _ _ ⟨(X0.out.alloc (.cells #[.int .u64 0, .int .i64 0] 151)).st3.c0, (X0.out.alloc (.cells #[.int .u64 0, .int .i64 0] 151)).st3.c1, (X0.out.alloc (.cells #[.int .u64 0, .int .i64 0] 151)).st3.c2⟩ (fun hH1 => ?_)
    clear hK
    try simp only [Act.put, List.setIfInBounds_toArray, List.set_cons_zero, List.set_cons_succ]
    refine wpAnyH_ready (rs := [6]) (by kernel_rfl) (by simp) ?_
    refine AllReadyH.cons (o := { dst := some 14, op := Op.call { callee := Callee.value (Operand.func 103), args := #[Operand.tmp 13], argTypes := #[153] }, type := 3, pos := "xor.go:138", after := #[{ on := 5, ground := Ground.data }], guard := none }) rfl (fun K hK => ?_) AllReadyH.nil
    go_simp
    refine (SZ.out _).mono ?_
    rintro e w2 ⟨rfl, b2⟩
    have X1 := hide (X0.out.drew.alloc (.cells #[.int .u64 0, .int .i64 0] 151))
    have Y1 := hide (Bx.new (w.alloc (.cells #[.int .i64 2, .int .i64 (a : Int), .int .i64 (b : Int)] 153)).drew 151 #[.int .u64 0, .int .i64 0])
    have b1 : Hid (Below w.heap.size w ((w.alloc (.cells #[.int .i64 2, .int .i64 (a : Int), .int .i64 (b : Int)] 153)).drew.alloc (.cells #[.int .u64 0, .int .i64 0] 151))) := (below_drew B0.out).alloc (by simp [World.drew]) _
    have X2 := hide (X1.out.below b2)
    have Y2 := hide (Y1.out.below b2)
    have b2' := hide (b1.out.trans (b2.mono b1.out.size))
    have hgO : Hid (w.heap.size ≤ (w.alloc (.cells #[.int .i64 2, .int .i64 (a : Int), .int .i64 (b : Int)] 153)).drew.heap.size ∧ (w.alloc (.cells #[.int .i64 2, .int .i64 (a : Int), .int .i64 (b : Int)] 153)).drew.heap.size ≠ w.heap.size) := by constructor <;> simp [World.drew]
    have hge : Hid ((w.alloc (.cells #[.int .i64 2, .int .i64 (a : Int), .int .i64 (b : Int)] 153)).drew.heap.size = w.heap.size + 1) := by show _ = _; simp [World.drew]
    rw [hge.out] at Y2 hgO
    refine hK.out _ _ ⟨X2.out.st3.c0, X2.out.st3.c1, X2.out.st3.c2⟩ (fun hH2 => ?_)
    clear hK
    try simp only [Act.put, List.setIfInBounds_toArray, List.set_cons_zero, List.set_cons_succ]
    refine wpAnyH_take (i := 7) (oi := { dst := some 15, op := Op.build 151 #[(0, Operand.tmp 12), (1, Operand.tmp 14)], type := 151, pos := "xor.go:138", after := #[{ on := 4, ground := Ground.data }, { on := 6, ground := Ground.data }], guard := none }) (v := ?_) rfl (by kernel_rfl) (by kernel_rfl) (by kernel_rfl) (fun _ _ _ h => h) (Or.inl ⟨by rfl, ?_⟩) hH2 ?_
    rotate_left
    · intro w' hw'
      obtain ⟨c0, c1, c2⟩ := hw'
      go_simp
      try with_reducible rfl
    try simp only [Act.put, List.setIfInBounds_toArray, List.set_cons_zero, List.set_cons_succ]
    obtain ⟨f0, f1, f2, f3, f4⟩ := Y2.out.st2
    refine wpAnyH_ready (rs := [9]) (by kernel_rfl) (by simp) ?_
    refine AllReadyH.cons (o := { dst := none, op := Op.store 151 (Operand.tmp 7) (Operand.tmp 15), type := 0, pos := "xor.go:138", after := #[{ on := 8, ground := Ground.data }, { on := 7, ground := Ground.data }, { on := 6, ground := Ground.chain }, { on := 0, ground := Ground.phase }, { on := 1, ground := Ground.phase }, { on := 2, ground := Ground.phase }, { on := 3, ground := Ground.phase }, { on := 4, ground := Ground.phase }, { on := 5, ground := Ground.phase }, { on := 6, ground := Ground.phase }, { on := 7, ground := Ground.phase }, { on := 8, ground := Ground.phase }], guard := none }) rfl (fun K hK => ?_) AllReadyH.nil
    go_simp
    have bt := but_set2 w2 (w.heap.size + 1) (.int .u64 (y : Int)) (.int .i64 (s : Int))
    have X3 := hide (X2.out.but bt (fun e => hgO.out.2 e.symm))
    have Y4 := hide (Y2.out.set2 (.int .u64 (y : Int)) (.int .i64 (s : Int)))
    have b4 := hide (below_set2 (g := w.heap.size + 1) b2'.out (by omega) (.int .u64 (y : Int)) (.int .i64 (s : Int)))
    refine hK.out _ _ ⟨X3.out.st3.c0, X3.out.st3.c1, X3.out.st3.c2⟩ (fun hH3 => ?_)
    clear hK f0 f1 f2 f3 f4 bt
    try simp only [Act.put, List.setIfInBounds_toArray, List.set_cons_zero, List.set_cons_succ]
    refine wpAnyH_done (by kernel_rfl) ?_ _
    refine NoPanic.normal ?_
    have X4 := X3
    generalize ((w2.setCell ⟨w.heap.size + 1, 0, none⟩ (.int .u64 (y : Int))).setCell ⟨w.heap.size + 1, 1, none⟩ (.int .i64 (s : Int))) = w4 at *
    have W4 := hide (h.out.below b4.out (Nat.le_refl _))
    have D4 := hide (Did.pre b4.out (Did.refl w4 base p v) (by have := h.out.lt; omega))
    clear hH0 hH1 hH2 hH3 X3 X2 Y2 X1 Y1 b1 X0 B0 h b2 b2' SZ b4 hgO hge
    have X5 := X4.out.st3
    have q0 := X5.c0
    have q1 := X5.c1
    have q2 := X5.c2
    have y0 := Y4.out.st2.c0
    have y1 := Y4.out.st2.c1
    clear X5
    have B5 := (Below.refl w4.heap.size w4).alloc (Nat.le_refl _) (.cells #[.int .u64 2, .int .i64 2, .int .u64 (y : Int), .int .i64 (s : Int)] 151)
    have P := hide (put2 (x0 := 2) (s0 := 2) (x1 := y) (s1 := s) (W4.out.below B5 (Nat.le_refl _)) (Bx.new w4 151 #[.int .u64 2, .int .i64 2, .int .u64 (y : Int), .int .i64 (s : Int)]) (W4.out.not (Nat.le_refl _)) rfl rfl (by decide) (by decide) rfl rfl hs64.out hy64.out (by have := hroom.out; omega))
    have D5 := hide (D4.out.post B5 (by have := W4.out.lt; omega))
    clear B5
    go_wp2_with fail
    refine P.out.mono ?_
    rintro e w6 ⟨rfl, v6, W6, D6⟩
    replace W6 := hide W6
    have D7 := hide (D5.out.trans D6)
    clear P D5 D6 W4 D4 X4 Y4 q0 q1 q2 y0 y1
    go_wp2_with fail
    go_ret
    exact ⟨rfl, v6, W6.out, D7.out⟩

set_option maxRecDepth 100000 in
set_option maxHeartbeats 4000000 in
theorem wd3 {w : World} {base p A n0 : Nat} {v : Value} (h : Wr w base p v A n0) {a b s x y : Nat} (hab : a + b ≤ 64) (hs : s = 64 - a - b) {s1 : Nat} (hs1 : s = s1 + 1) (hx : x < 18446744073709551616) (hy : x / 2 ^ b = y) (hroom : n0 + (2 + 6 + 6 + s) ≤ 524288) :
    Calls Tryz.prog 95 #[.pointer (some ⟨p, 0, none⟩), .agg #[.int .i64 3, .int .i64 (a : Int), .int .i64 (b : Int)], .int .u64 (x : Int)] w fun e w' => e = .returned (.int .i64 0) ∧ ∃ v', Wr w' base p v' (A * 2 ^ (2 + 6 + 6 + s) + ((((3 % 2 ^ 2) * 2 ^ 6 + a % 2 ^ 6) * 2 ^ 6 + s1 % 2 ^ 6) * 2 ^ s + y % 2 ^ s)) (n0 + (2 + 6 + 6 + s)) ∧ Did w w' base p v v' := by
  have X0 := hide (Bx.new w 153 #[.int .i64 3, .int .i64 (a : Int), .int .i64 (b : Int)])
  have B0 : Hid (Below w.heap.size w (w.alloc (.cells #[.int .i64 3, .int .i64 (a : Int), .int .i64 (b : Int)] 153))) := (Below.refl _ w).alloc (Nat.le_refl _) _
  have SZ := hide (fun w => size_anyX 3 (a : Int) (b : Int) (s : Int) w (by omega) (by omega) (by rw [if_neg (by decide)]; omega))
  have hyI : (x : Int) / 2 ^ b = (y : Int) := by rw [← hy]; simp
  have hy64 := hide (show y < 18446744073709551616 by rw [← hy]; exact Nat.lt_of_le_of_lt (Nat.div_le_self _ _) hx)
  have hs64 := hide (show s ≤ 64 by omega)
  have hmin : min b 64 = b := by omega
  have hbI : (b : Int) ≤ 64 := by omega
  have ha := hide (show a ≤ 64 by omega)
  have es1 : (s : Int) - 1 = (s1 : Int) := by omega
  have ea : (a : Int) ≤ 64 := by omega
  have ess : (s : Int) ≤ 64 := by omega
  have es11 : (s1 : Int) ≤ 64 := by omega
  replace hs1 := hide hs1
  replace h := hide h
  replace hroom := hide hroom
  clear hy hs hab hx
  go_enter Tryz.func95, Tryz.ntmps95
  go_wp2_with fail
  refine wp_region_noPanic ?_
  refine wp_region_held_drew (S := (fun w' => w'.cell? ⟨w.heap.size, 0, none⟩ = some (.int .i64 3) ∧ w'.cell? ⟨w.heap.size, 1, none⟩ = some (.int .i64 (a : Int)) ∧ w'.cell? ⟨w.heap.size, 2, none⟩ = some (.int .i64 (b : Int)))) (by kernel_rfl) ⟨X0.out.st3.c0, X0.out.st3.c1, X0.out.st3.c2⟩ (fun hH0 => ?_)
  refine wpAnyH_take (i := 0) (oi := { dst := some 8, op := Op.move (Operand.tmp 2), type := 31, pos := "xor.go:138", after := #[], guard := none }) (v := ?_) rfl (by kernel_rfl) (by kernel_rfl) (by kernel_rfl) (fun _ _ _ h => h) (Or.inl ⟨by rfl, ?_⟩) hH0 ?_
  rotate_left
  · intro w' hw'
    obtain ⟨c0, c1, c2⟩ := hw'
    go_simp
    try with_reducible rfl
  try simp only [Act.put, List.setIfInBounds_toArray, List.set_cons_zero, List.set_cons_succ]
  refine wpAnyH_take (i := 1) (oi := { dst := some 9, op := Op.fieldAddr 153 (Operand.tmp 4) 1, type := 0, pos := "xor.go:138", after := #[], guard := none }) (v := ?_) rfl (by kernel_rfl) (by kernel_rfl) (by kernel_rfl) (fun _ _ _ h => h) (Or.inl ⟨by rfl, ?_⟩) hH0 ?_
  rotate_left
  · intro w' hw'
    obtain ⟨c0, c1, c2⟩ := hw'
    go_simp
    try with_reducible rfl
  try simp only [Act.put, List.setIfInBounds_toArray, List.set_cons_zero, List.set_cons_succ]
  refine wpAnyH_take (i := 2) (oi := { dst := some 10, op := Op.fieldAddr 116 (Operand.tmp 9) 1, type := 0, pos := "xor.go:138", after := #[{ on := 1, ground := Ground.data }], guard := none }) (v := ?_) rfl (by kernel_rfl) (by kernel_rfl) (by kernel_rfl) (fun _ _ _ h => h) (Or.inl ⟨by rfl, ?_⟩) hH0 ?_
  rotate_left
  · intro w' hw'
    obtain ⟨c0, c1, c2⟩ := hw'
    go_simp
    try with_reducible rfl
  try simp only [Act.put, List.setIfInBounds_toArray, List.set_cons_zero, List.set_cons_succ]
  refine wpAnyH_take (i := 3) (oi := { dst := some 11, op := Op.load 3 (Operand.tmp 10), type := 3, pos := "xor.go:138", after := #[{ on := 2, ground := Ground.data }], guard := none }) (v := ?_) rfl (by kernel_rfl) (by kernel_rfl) (by kernel_rfl) (fun _ _ _ h => h) (Or.inl ⟨by rfl, ?_⟩) hH0 ?_
  rotate_left
  · intro w' hw'
    obtain ⟨c0, c1, c2⟩ := hw'
    go_simp
    try with_reducible rfl
  try simp only [Act.put, List.setIfInBounds_toArray, List.set_cons_zero, List.set_cons_succ]
  refine wpAnyH_take (i := 4) (oi := { dst := some 12, op := Op.binOp BinOp.shr 31 (Operand.tmp 8) (Operand.tmp 11) 3, type := 31, pos := "xor.go:138", after := #[{ on := 0, ground := Ground.data }, { on := 3, ground := Ground.data }], guard := none }) (v := ?_) rfl (by kernel_rfl) (by kernel_rfl) (by kernel_rfl) (fun _ _ _ h => h) (Or.inl ⟨by rfl, ?_⟩) hH0 ?_
  rotate_left
  · intro w' hw'
    obtain ⟨c0, c1, c2⟩ := hw'
    go_simp
    try with_reducible rfl
  try simp only [Act.put, List.setIfInBounds_toArray, List.set_cons_zero, List.set_cons_succ]
  refine wpAnyH_take (i := 5) (oi := { dst := some 13, op := Op.load 153 (Operand.tmp 4), type := 153, pos := "xor.go:138", after := #[], guard := none }) (v := ?_) rfl (by kernel_rfl) (by kernel_rfl) (by kernel_rfl) (fun _ _ _ h => h) (Or.inl ⟨by rfl, ?_⟩) hH0 ?_
  rotate_left
  · intro w' hw'
    obtain ⟨c0, c1, c2⟩ := hw'
    go_simp
    try with_reducible rfl
  try simp only [Act.put, List.setIfInBounds_toArray, List.set_cons_zero, List.set_cons_succ]
  refine wpAnyH_ready (rs := [6, 8]) (by kernel_rfl) (by simp) ?_
  refine AllReadyH.cons (o := { dst := some 14, op := Op.call { callee := Callee.value (Operand.func 103), args := #[Operand.tmp 13], argTypes := #[153] }, type := 3, pos := "xor.go:138", after := #[{ on := 5, ground := Ground.data }], guard := none }) rfl (fun K hK => ?_) (AllReadyH.cons (o := { dst := some 7, op := Op.alloc 151, type := 0, pos := "xor.go:138", after := #[], guard := none }) rfl (fun K hK => ?_) AllReadyH.nil)
  · go_simp
    refine (SZ.out _).mono ?_
    rintro e w2 ⟨rfl, b2⟩
    have X2 := hide (X0.out.drew.below b2)
    have b2' := hide ((below_drew B0.out).trans (b2.mono (by simp [World.drew])))
    refine hK.out _ _ ⟨X2.out.st3.c0, X2.out.st3.c1, X2.out.st3.c2⟩ (fun hH1 => ?_)
    clear hK
    try simp only [Act.put, List.setIfInBounds_toArray, List.set_cons_zero, List.set_cons_succ]
    refine wpAnyH_take (i := 7) (oi := { dst := some 15, op := Op.build 151 #[(0, Operand.tmp 12), (1, Operand.tmp 14)], type := 151, pos := "xor.go:138", after := #[{ on := 4, ground := Ground.data }, { on := 6, ground := Ground.data }], guard := none }) (v := ?_) rfl (by kernel_rfl) (by kernel_rfl) (by kernel_rfl) (fun _ _ _ h => h) (Or.inl ⟨by rfl, ?_⟩) hH1 ?_
    rotate_left
    · intro w' hw'
      obtain ⟨c0, c1, c2⟩ := hw'
      go_simp
      try with_reducible rfl
    try simp only [Act.put, List.setIfInBounds_toArray, List.set_cons_zero, List.set_cons_succ]
    refine wpAnyH_ready (rs := [8]) (by kernel_rfl) (by simp) ?_
    refine AllReadyH.cons (o := { dst := some 7, op := Op.alloc 151, type := 0, pos := "xor.go:138", after := #[], guard := none }) rfl (fun K hK => ?_) AllReadyH.nil
    go_simp
    refine hK.out _ _ ⟨(X2.out.alloc (.cells #[.int .u64 0, .int .i64 0] 151)).st3.c0, (X2.out.alloc (.cells #[.int .u64 0, .int .i64 0] 151)).st3.c1, (X2.out.alloc (.cells #[.int .u64 0, .int .i64 0] 151)).st3.c2⟩ (fun hH2 => ?_)
    clear hK
    try simp only [Act.put, List.setIfInBounds_toArray, List.set_cons_zero, List.set_cons_succ]
    refine wpAnyH_ready (rs := [9]) (by kernel_rfl) (by simp) ?_
    refine AllReadyH.cons (o := { dst := none, op := Op.store 151 (Operand.tmp 7) (Operand.tmp 15), type := 0, pos := "xor.go:138", after := #[{ on := 8, ground := Ground.data }, { on := 7, ground := Ground.data }, { on := 6, ground := Ground.chain }, { on := 0, ground := Ground.phase }, { on := 1, ground := Ground.phase }, { on := 2, ground := Ground.phase }, { on := 3, ground := Ground.phase }, { on := 4, ground := Ground.phase }, { on := 5, ground := Ground.phase }, { on := 6, ground := Ground.phase }, { on := 7, ground := Ground.phase }, { on := 8, ground := Ground.phase }], guard := none }) rfl (fun K hK => ?_) AllReadyH.nil
    go_simp
    refine hK.out _ _ ⟨(X2.out.alloc (.cells #[.int .u64 (y : Int), .int .i64 (s : Int)] 151)).st3.c0, (X2.out.alloc (.cells #[.int .u64 (y : Int), .int .i64 (s : Int)] 151)).st3.c1, (X2.out.alloc (.cells #[.int .u64 (y : Int), .int .i64 (s : Int)] 151)).st3.c2⟩ (fun hH3 => ?_)
    clear hK
    try simp only [Act.put, List.setIfInBounds_toArray, List.set_cons_zero, List.set_cons_succ]
    refine wpAnyH_done (by kernel_rfl) ?_ _
    refine NoPanic.normal ?_
    have X4 := hide (X2.out.alloc (.cells #[.int .u64 (y : Int), .int .i64 (s : Int)] 151))
    have Y4 := hide (Bx.new w2 151 #[.int .u64 (y : Int), .int .i64 (s : Int)])
    have b4 := hide (b2'.out.alloc b2'.out.size (.cells #[.int .u64 (y : Int), .int .i64 (s : Int)] 151))
    generalize w2.alloc (.cells #[.int .u64 (y : Int), .int .i64 (s : Int)] 151) = w4 at *
    generalize w2.heap.size = gO at *
    have W4 := hide (h.out.below b4.out (Nat.le_refl _))
    have D4 := hide (Did.pre b4.out (Did.refl w4 base p v) (by have := h.out.lt; omega))
    clear hH0 hH1 hH2 hH3 X2 X0 B0 h b2 b2' SZ b4
    have X5 := X4.out.st3
    have q0 := X5.c0
    have q1 := X5.c1
    have q2 := X5.c2
    have y0 := Y4.out.st2.c0
    have y1 := Y4.out.st2.c1
    clear X5
    have B5 := (Below.refl w4.heap.size w4).alloc (Nat.le_refl _) (.cells #[.int .u64 3, .int .i64 2, .int .u64 (a : Int), .int .i64 6, .int .u64 ((s1 : Nat) : Int), .int .i64 6, .int .u64 (y : Int), .int .i64 (s : Int)] 151)
    have P := hide (put4 (x0 := 3) (s0 := 2) (x1 := a) (s1 := 6) (x2 := s1) (s2 := 6) (x3 := y) (s3 := s) (W4.out.below B5 (Nat.le_refl _)) (Bx.new w4 151 #[.int .u64 3, .int .i64 2, .int .u64 (a : Int), .int .i64 6, .int .u64 ((s1 : Nat) : Int), .int .i64 6, .int .u64 (y : Int), .int .i64 (s : Int)]) (W4.out.not (Nat.le_refl _)) rfl rfl (by decide) (by decide) rfl rfl (by decide) (by have := ha.out; omega) rfl rfl (by decide) (by have := hs1.out; have := hs64.out; omega) rfl rfl hs64.out hy64.out (by have := hroom.out; omega))
    have D5 := hide (D4.out.post B5 (by have := W4.out.lt; omega))
    clear B5
    go_wp2_with fail
    refine P.out.mono ?_
    rintro e w6 ⟨rfl, v6, W6, D6⟩
    replace W6 := hide W6
    have D7 := hide (D5.out.trans D6)
    clear P D5 D6 W4 D4 X4 Y4 q0 q1 q2 y0 y1
    go_wp2_with fail
    go_ret
    exact ⟨rfl, v6, W6.out, D7.out⟩
  · go_simp
    refine hK.out _ _ ⟨(X0.out.alloc (.cells #[.int .u64 0, .int .i64 0] 151)).st3.c0, (X0.out.alloc (.cells #[.int .u64 0, .int .i64 0] 151)).st3.c1, (X0.out.alloc (.cells #[.int .u64 0, .int .i64 0] 151)).st3.c2⟩ (fun hH1 => ?_)
    clear hK
    try simp only [Act.put, List.setIfInBounds_toArray, List.set_cons_zero, List.set_cons_succ]
    refine wpAnyH_ready (rs := [6]) (by kernel_rfl) (by simp) ?_
    refine AllReadyH.cons (o := { dst := some 14, op := Op.call { callee := Callee.value (Operand.func 103), args := #[Operand.tmp 13], argTypes := #[153] }, type := 3, pos := "xor.go:138", after := #[{ on := 5, ground := Ground.data }], guard := none }) rfl (fun K hK => ?_) AllReadyH.nil
    go_simp
    refine (SZ.out _).mono ?_
    rintro e w2 ⟨rfl, b2⟩
    have X1 := hide (X0.out.drew.alloc (.cells #[.int .u64 0, .int .i64 0] 151))
    have Y1 := hide (Bx.new (w.alloc (.cells #[.int .i64 3, .int .i64 (a : Int), .int .i64 (b : Int)] 153)).drew 151 #[.int .u64 0, .int .i64 0])
    have b1 : Hid (Below w.heap.size w ((w.alloc (.cells #[.int .i64 3, .int .i64 (a : Int), .int .i64 (b : Int)] 153)).drew.alloc (.cells #[.int .u64 0, .int .i64 0] 151))) := (below_drew B0.out).alloc (by simp [World.drew]) _
    have X2 := hide (X1.out.below b2)
    have Y2 := hide (Y1.out.below b2)
    have b2' := hide (b1.out.trans (b2.mono b1.out.size))
    have hgO : Hid (w.heap.size ≤ (w.alloc (.cells #[.int .i64 3, .int .i64 (a : Int), .int .i64 (b : Int)] 153)).drew.heap.size ∧ (w.alloc (.cells #[.int .i64 3, .int .i64 (a : Int), .int .i64 (b : Int)] 153)).drew.heap.size ≠ w.heap.size) := by constructor <;> simp [World.drew]
    have hge : Hid ((w.alloc (.cells #[.int .i64 3, .int .i64 (a : Int), .int .i64 (b : Int)] 153)).drew.heap.size = w.heap.size + 1) := by show _ = _; simp [World.drew]
    rw [hge.out] at Y2 hgO
    refine hK.out _ _ ⟨X2.out.st3.c0, X2.out.st3.c1, X2.out.st3.c2⟩ (fun hH2 => ?_)
    clear hK
    try simp only [Act.put, List.setIfInBounds_toArray, List.set_cons_zero, List.set_cons_succ]
    refine wpAnyH_take (i := 7) (oi := { dst := some 15, op := Op.build 151 #[(0, Operand.tmp 12), (1, Operand.tmp 14)], type := 151, pos := "xor.go:138", after := #[{ on := 4, ground := Ground.data }, { on := 6, ground := Ground.data }], guard := none }) (v := ?_) rfl (by kernel_rfl) (by kernel_rfl) (by kernel_rfl) (fun _ _ _ h => h) (Or.inl ⟨by rfl, ?_⟩) hH2 ?_
    rotate_left
    · intro w' hw'
      obtain ⟨c0, c1, c2⟩ := hw'
      go_simp
      try with_reducible rfl
    try simp only [Act.put, List.setIfInBounds_toArray, List.set_cons_zero, List.set_cons_succ]
    obtain ⟨f0, f1, f2, f3, f4⟩ := Y2.out.st2
    refine wpAnyH_ready (rs := [9]) (by kernel_rfl) (by simp) ?_
    refine AllReadyH.cons (o := { dst := none, op := Op.store 151 (Operand.tmp 7) (Operand.tmp 15), type := 0, pos := "xor.go:138", after := #[{ on := 8, ground := Ground.data }, { on := 7, ground := Ground.data }, { on := 6, ground := Ground.chain }, { on := 0, ground := Ground.phase }, { on := 1, ground := Ground.phase }, { on := 2, ground := Ground.phase }, { on := 3, ground := Ground.phase }, { on := 4, ground := Ground.phase }, { on := 5, ground := Ground.phase }, { on := 6, ground := Ground.phase }, { on := 7, ground := Ground.phase }, { on := 8, ground := Ground.phase }], guard := none }) rfl (fun K hK => ?_) AllReadyH.nil
    go_simp
    have bt := but_set2 w2 (w.heap.size + 1) (.int .u64 (y : Int)) (.int .i64 (s : Int))
    have X3 := hide (X2.out.but bt (fun e => hgO.out.2 e.symm))
    have Y4 := hide (Y2.out.set2 (.int .u64 (y : Int)) (.int .i64 (s : Int)))
    have b4 := hide (below_set2 (g := w.heap.size + 1) b2'.out (by omega) (.int .u64 (y : Int)) (.int .i64 (s : Int)))
    refine hK.out _ _ ⟨X3.out.st3.c0, X3.out.st3.c1, X3.out.st3.c2⟩ (fun hH3 => ?_)
    clear hK f0 f1 f2 f3 f4 bt
    try simp only [Act.put, List.setIfInBounds_toArray, List.set_cons_zero, List.set_cons_succ]
    refine wpAnyH_done (by kernel_rfl) ?_ _
    refine NoPanic.normal ?_
    have X4 := X3
    generalize ((w2.setCell ⟨w.heap.size + 1, 0, none⟩ (.int .u64 (y : Int))).setCell ⟨w.heap.size + 1, 1, none⟩ (.int .i64 (s : Int))) = w4 at *
    have W4 := hide (h.out.below b4.out (Nat.le_refl _))
    have D4 := hide (Did.pre b4.out (Did.refl w4 base p v) (by have := h.out.lt; omega))
    clear hH0 hH1 hH2 hH3 X3 X2 Y2 X1 Y1 b1 X0 B0 h b2 b2' SZ b4 hgO hge
    have X5 := X4.out.st3
    have q0 := X5.c0
    have q1 := X5.c1
    have q2 := X5.c2
    have y0 := Y4.out.st2.c0
    have y1 := Y4.out.st2.c1
    clear X5
    have B5 := (Below.refl w4.heap.size w4).alloc (Nat.le_refl _) (.cells #[.int .u64 3, .int .i64 2, .int .u64 (a : Int), .int .i64 6, .int .u64 ((s1 : Nat) : Int), .int .i64 6, .int .u64 (y : Int), .int .i64 (s : Int)] 151)
    have P := hide (put4 (x0 := 3) (s0 := 2) (x1 := a) (s1 := 6) (x2 := s1) (s2 := 6) (x3 := y) (s3 := s) (W4.out.below B5 (Nat.le_refl _)) (Bx.new w4 151 #[.int .u64 3, .int .i64 2, .int .u64 (a : Int), .int .i64 6, .int .u64 ((s1 : Nat) : Int), .int .i64 6, .int .u64 (y : Int), .int .i64 (s : Int)]) (W4.out.not (Nat.le_refl _)) rfl rfl (by decide) (by decide) rfl rfl (by decide) (by have := ha.out; omega) rfl rfl (by decide) (by have := hs1.out; have := hs64.out; omega) rfl rfl hs64.out hy64.out (by have := hroom.out; omega))
    have D5 := hide (D4.out.post B5 (by have := W4.out.lt; omega))
    clear B5
    go_wp2_with fail
    refine P.out.mono ?_
    rintro e w6 ⟨rfl, v6, W6, D6⟩
    replace W6 := hide W6
    have D7 := hide (D5.out.trans D6)
    clear P D5 D6 W4 D4 X4 Y4 q0 q1 q2 y0 y1
    go_wp2_with fail
    go_ret
    exact ⟨rfl, v6, W6.out, D7.out⟩

end Go.Proofs.YtmjjedbdedemcaaGreatDoor
