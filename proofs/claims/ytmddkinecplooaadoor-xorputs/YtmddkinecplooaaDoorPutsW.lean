/-
  The walk of XorPuts.
-/
import Derived.Test.YtmddkinecplooaaDoorXM
import Derived.Test.YtmddkinecplooaaDoorXJ
import Derived.Deep.Cut
import Derived.Deep.RegionHeld3
namespace Go.Proofs.YtmddkinecplooaaDoor
open Go.RowKit
set_option linter.unusedVariables false
set_option linter.unusedSimpArgs false

set_option maxRecDepth 100000 in
set_option maxHeartbeats 4000000 in
theorem puts_walk (n l a b vv k0 : Int) (w : World) (ht : Tab w) (wn : (Lit.int .i64 n).wf = true) (wl : (Lit.int .u64 l).wf = true) (wa : (Lit.int .i64 a).wf = true) (wb : (Lit.int .i64 b).wf = true) (wv : (Lit.int .u64 vv).wf = true) (wk : (Lit.int .i64 k0).wf = true) :
    Calls Tryd.prog 3 #[.agg #[.int .i64 n, .int .u64 l, .int .i64 a, .int .i64 b], .int .u64 vv, .int .i64 k0] w fun e w' => e = .returned (.bool true) ∧ Below w.heap.size w w' := by
  have hz30 : (Tryd.prog.info? 30).map (·.zero) = some (some (.agg #[.slice none 0 0])) := by kernel_rfl
  obtain ⟨k, gk, G⟩ := among_ex k0 20 20 (by omega) wk (by omega) (by omega)
  replace G := hide G
  have hpos := hide ht.pos
  replace ht := hide ht
  obtain ⟨L, hLe⟩ : ∃ L : Nat, l = (L : Int) := ⟨l.toNat, by have := wf_u64 wl; omega⟩
  obtain ⟨V, hVe⟩ : ∃ V : Nat, vv = (V : Int) := ⟨vv.toNat, by have := wf_u64 wv; omega⟩
  have hL := hide (show L < 18446744073709551616 by have := wf_u64 wl; omega)
  have hV := hide (show V < 18446744073709551616 by have := wf_u64 wv; omega)
  have ha9 := hide (wf_i64 wa).2
  have hb9 := hide (wf_i64 wb).2
  subst hLe hVe
  have B0 : Hid (Below w.heap.size w (w.alloc (.cells #[.int .i64 n, .int .u64 (L : Int), .int .i64 a, .int .i64 b] 24))) := (Below.refl _ w).alloc (Nat.le_refl _) _
  have S0 := hide (Bx.new w 24 #[.int .i64 n, .int .u64 (L : Int), .int .i64 a, .int .i64 b])
  have N := hide (newWr _ w.heap.size B0.out.size)
  clear wn wl wa wb wv wk
  go_enter Tryd.func3, Tryd.ntmps3
  go_wp2_with fail
  refine N.out.mono ?_
  rintro e w1 ⟨p, rfl, b1, W1, hn1⟩
  have b1' := hide (B0.out.trans (b1.mono B0.out.size))
  have S1 := hide ((S0.out.below b1).alloc (.cells #[.slice none 0 0] 30))
  have E1 := hide (TW.start W1 (ht.out.kept b1'.out hpos.out) b1'.out hpos.out)
  have f1 : Hid (¬ fp p (.slice none 0 0) w.heap.size) := fun h => by have := hn1 _ h; have := S0.out.lt; omega
  have f2 : Hid (¬ fp w1.heap.size (.slice none 0 0) w.heap.size) := fun h => by
    rcases h with h | h
    · have := S0.out.lt; have := b1.size; omega
    · cases h
  clear N W1 hn1 b1 S0 B0
  have P1 := hide (putWr E1.out.wr 0 k (by decide) (by omega) (by omega))
  go_wp2_with fail
  refine (G.out _).mono ?_
  rintro e wq ⟨rfl, rfl⟩
  go_wp2_with fail
  refine P1.out.mono ?_
  rintro e w2 ⟨rfl, v2, W2, D2⟩
  have E2 := hide (E1.out.put1 D2 W2)
  have S2 := hide (S1.out.did D2 f1.out)
  have f1' := hide (D2.not S1.out.lt f1.out)
  clear P1 W2 D2 S1 f1 E1 G
  have P2 := hide (putRW E2.out.rw 0 k (xi := 0) (ni := (k : Int)) rfl rfl (by decide) (by omega) (by simp; omega))
  go_wp2_with fail
  refine P2.out.mono ?_
  rintro e w3 ⟨rfl, u3, M3, W3, n3, l3, D3⟩
  have hM0 : Hid (numB M3 = 0 ∧ M3.length = k) := ⟨by rw [n3]; simp [numB], by rw [l3]; simp⟩
  have E3 : Hid (TW w w3 w.heap.size p v2 (numB M3) M3.length w1.heap.size u3 M3) := by
    have := E2.out.put2 D3 W3
    rw [hM0.out.1, hM0.out.2]
    simp only [Nat.zero_mul, Nat.zero_mod, Nat.add_zero, Nat.zero_add] at this
    exact this
  have S3 := hide (S2.out.did D3 f2.out)
  have hM := hide (show M3.length < 20 by have := hM0.out.2; omega)
  clear P2 W3 D3 n3 l3 E2 S2 f2 hM0 gk
  have f1 := f1'
  clear f1' b1'
  generalize w1.heap.size = r at *
  cases hok : okSI n a b
  · have P4 := hide (putX_no (L := (L : Int)) (V := (V : Int)) E3.out.wr E3.out.t hpos.out hok ha9.out hb9.out (by have := hM.out; omega))
    have RP := hide (fun wx (h : RW wx w.heap.size r u3 M3) => rputX_no (w := wx) (v := u3) (M := M3) (L := (L : Int)) (V := (V : Int)) h hok)
    have heqA : ∀ w, (binOp .eql 36 (.agg #[.int .i64 0, .int .u64 0, .int .i64 0, .int .i64 0]) (.agg #[.int .i64 0, .int .u64 0, .int .i64 0, .int .i64 0])).run Tryd.prog w = .ok (.bool true) w := fun w => by rw [run_eql36]; simp
    have heqB : ∀ w, (binOp .eql 36 (.agg #[.int .i64 0, .int .u64 0, .int .i64 64, .int .i64 0]) (.agg #[.int .i64 0, .int .u64 0, .int .i64 64, .int .i64 0])).run Tryd.prog w = .ok (.bool true) w := fun w => by rw [run_eql36]; simp
    have s0 := S3.out.st4.c0
    have s1 := S3.out.st4.c1
    have s2 := S3.out.st4.c2
    have s3 := S3.out.st4.c3
    go_wp2_with fail
    refine P4.out.mono ?_
    rintro e w4 ⟨rfl, v4, W4, D4⟩
    have E4' := E3.out.put1 D4 W4
    have S4' := S3.out.did D4 f1.out
    have X4 := hide (Bx.new w4 24 #[.int .i64 0, .int .u64 0, .int .i64 0, .int .i64 0])
    have nX := hide (E4'.rw.not (Nat.le_refl _))
    have E4 := hide (E4'.alloc (.cells #[.int .i64 0, .int .u64 0, .int .i64 0, .int .i64 0] 24))
    have S4 := hide (S4'.alloc (.cells #[.int .i64 0, .int .u64 0, .int .i64 0, .int .i64 0] 24))
    clear P4 E3 S3 f1 W4 D4 E4' S4' s0 s1 s2 s3
    have s0 := S4.out.st4.c0
    have s1 := S4.out.st4.c1
    have s2 := S4.out.st4.c2
    have s3 := S4.out.st4.c3
    go_wp2_with fail
    refine (plain_any _ _ _ _ _).mono ?_
    rintro e w5 ⟨rfl, b5⟩
    have E5 := hide (E4.out.below b5)
    have X5 := hide (X4.out.below b5)
    clear E4 X4 S4 b5 s0 s1 s2 s3
    go_wp2_with fail
    refine (RP.out _ E5.out.rw).mono ?_
    rintro e w6 ⟨rfl, W6, D6⟩
    have E6' := E5.out.put2 D6 W6
    have X6' := X5.out.did D6 nX.out
    have Y6 := hide (Bx.new w6 36 #[.int .i64 0, .int .u64 0, .int .i64 0, .int .i64 0])
    have E6 := hide (E6'.alloc (.cells #[.int .i64 0, .int .u64 0, .int .i64 0, .int .i64 0] 36))
    have X6 := hide (X6'.alloc (.cells #[.int .i64 0, .int .u64 0, .int .i64 0, .int .i64 0] 36))
    obtain ⟨a6, c6, hu⟩ := E6'.rw.slice
    obtain ⟨l6, hl6⟩ : ∃ l6, M3.length = l6 := ⟨_, rfl⟩
    rw [hl6] at hu
    subst hu
    replace hl6 := hide hl6

    clear E5 X5 nX E6' X6' W6 D6 RP 
    go_upto_region 7 with fail
    obtain ⟨gX, hgX⟩ : ∃ g, g = w4.heap.size := ⟨_, rfl⟩
    obtain ⟨gY, hgY⟩ : ∃ g, g = w6.heap.size := ⟨_, rfl⟩
    obtain ⟨w7, hw7⟩ : ∃ w7, w7 = w6.alloc (.cells #[.int .i64 0, .int .u64 0, .int .i64 0, .int .i64 0] 36) := ⟨_, rfl⟩
    simp only [← hgX, ← hgY, ← hw7] at E6 X6 Y6 ⊢
    clear hgX hgY hw7
    refine wp_region_noPanic ?_
    refine wp_region_held_drew (S := (fun w' => St4 w' gX (.int .i64 0) (.int .u64 0) (.int .i64 0) (.int .i64 0) ∧ St4 w' gY (.int .i64 0) (.int .u64 0) (.int .i64 0) (.int .i64 0) ∧ w'.cell? ⟨r, 0, none⟩ = some (.slice a6 l6 c6))) (by kernel_rfl) ⟨X6.out.drew.st4, Y6.out.drew.st4, E6.out.drew.rw.c0⟩ (fun hH0 => ?_)
    have E7 := hide E6.out.drew
    have X7 := hide X6.out.drew
    have Y7 := hide Y6.out.drew
    clear E6 X6 Y6
    refine wpAnyH_take (i := 0) (oi := { dst := some 39, op := Op.load 24 (Operand.tmp 9), type := 24, pos := "law.go:49", after := #[], guard := none }) (v := ?_) rfl (by kernel_rfl) (by kernel_rfl) (by kernel_rfl) (fun _ _ _ h => h) (Or.inl ⟨by rfl, ?_⟩) hH0 ?_
    rotate_left
    · intro w' hw'
      obtain ⟨⟨x0, x1, x2, x3, -, -, -, -, -, -, -⟩, ⟨y0, y1, y2, y3, -, -, -, -, -, -, -⟩, r0⟩ := hw'
      go_simp
      try with_reducible rfl
    try simp only [Act.put, List.setIfInBounds_toArray, List.set_cons_zero, List.set_cons_succ]
    refine wpAnyH_take (i := 2) (oi := { dst := some 41, op := Op.load 36 (Operand.tmp 11), type := 36, pos := "law.go:49", after := #[], guard := none }) (v := ?_) rfl (by kernel_rfl) (by kernel_rfl) (by kernel_rfl) (fun _ _ _ h => h) (Or.inl ⟨by rfl, ?_⟩) hH0 ?_
    rotate_left
    · intro w' hw'
      obtain ⟨⟨x0, x1, x2, x3, -, -, -, -, -, -, -⟩, ⟨y0, y1, y2, y3, -, -, -, -, -, -, -⟩, r0⟩ := hw'
      go_simp
      try with_reducible rfl
    try simp only [Act.put, List.setIfInBounds_toArray, List.set_cons_zero, List.set_cons_succ]
    refine wpAnyH_ready (rs := [1]) (by kernel_rfl) (by simp) ?_
    refine AllReadyH.cons (o := { dst := some 40, op := Op.call { callee := Callee.value (Operand.func 14), args := #[Operand.tmp 39], argTypes := #[24] }, type := 36, pos := "law.go:49", after := #[{ on := 0, ground := Ground.data }], guard := none }) rfl (fun K hK => ?_) AllReadyH.nil
    go_simp
    refine (plain_any _ _ _ _ _).mono ?_
    rintro e w8 ⟨rfl, b8⟩
    have E8 := hide (E7.out.below b8)
    have X8 := hide (X7.out.below b8)
    have Y8 := hide (Y7.out.below b8)
    clear E7 X7 Y7
    refine hK.out _ _ ⟨X8.out.st4, Y8.out.st4, E8.out.rw.c0⟩ (fun hH1 => ?_)
    clear hK
    try simp only [Act.put, List.setIfInBounds_toArray, List.set_cons_zero, List.set_cons_succ]
    refine wpAnyH_take (i := 3) (oi := { dst := some 42, op := Op.binOp BinOp.eql 36 (Operand.tmp 40) (Operand.tmp 41) 36, type := 4, pos := "law.go:49", after := #[{ on := 1, ground := Ground.data }, { on := 2, ground := Ground.data }], guard := none }) (v := ?_) rfl (by kernel_rfl) (by kernel_rfl) (by kernel_rfl) (fun _ _ _ h => h) (Or.inl ⟨by rfl, ?_⟩) hH1 ?_
    rotate_left
    · intro w' hw'
      obtain ⟨⟨x0, x1, x2, x3, -, -, -, -, -, -, -⟩, ⟨y0, y1, y2, y3, -, -, -, -, -, -, -⟩, r0⟩ := hw'
      go_simp
      try with_reducible rfl
    try simp only [Act.put, List.setIfInBounds_toArray, List.set_cons_zero, List.set_cons_succ]
    refine wpAnyH_take (i := 4) (oi := { dst := some 43, op := Op.move (Operand.tmp 42), type := 4, pos := "law.go:49", after := #[{ on := 3, ground := Ground.data }, { on := 1, ground := Ground.chain }], guard := none }) (v := ?_) rfl (by kernel_rfl) (by kernel_rfl) (by kernel_rfl) (fun _ _ _ h => h) (Or.inl ⟨by rfl, ?_⟩) hH1 ?_
    rotate_left
    · intro w' hw'
      obtain ⟨⟨x0, x1, x2, x3, -, -, -, -, -, -, -⟩, ⟨y0, y1, y2, y3, -, -, -, -, -, -, -⟩, r0⟩ := hw'
      go_simp
      try with_reducible rfl
    try simp only [Act.put, List.setIfInBounds_toArray, List.set_cons_zero, List.set_cons_succ]
    refine wpAnyH_take (i := 5) (oi := { dst := some 44, op := Op.move (Operand.tmp 10), type := 32, pos := "law.go:49", after := #[{ on := 4, ground := Ground.guard }], guard := some (4, true) }) (v := ?_) rfl (by kernel_rfl) (by kernel_rfl) (by kernel_rfl) (fun _ _ _ h => h) (Or.inl ⟨by rfl, ?_⟩) hH1 ?_
    rotate_left
    · intro w' hw'
      obtain ⟨⟨x0, x1, x2, x3, -, -, -, -, -, -, -⟩, ⟨y0, y1, y2, y3, -, -, -, -, -, -, -⟩, r0⟩ := hw'
      go_simp
      try with_reducible rfl
    try simp only [Act.put, List.setIfInBounds_toArray, List.set_cons_zero, List.set_cons_succ]
    refine wpAnyH_take (i := 6) (oi := { dst := some 45, op := Op.move (Operand.tmp 12), type := 32, pos := "law.go:49", after := #[{ on := 4, ground := Ground.guard }], guard := some (4, true) }) (v := ?_) rfl (by kernel_rfl) (by kernel_rfl) (by kernel_rfl) (fun _ _ _ h => h) (Or.inl ⟨by rfl, ?_⟩) hH1 ?_
    rotate_left
    · intro w' hw'
      obtain ⟨⟨x0, x1, x2, x3, -, -, -, -, -, -, -⟩, ⟨y0, y1, y2, y3, -, -, -, -, -, -, -⟩, r0⟩ := hw'
      go_simp
      try with_reducible rfl
    try simp only [Act.put, List.setIfInBounds_toArray, List.set_cons_zero, List.set_cons_succ]
    refine wpAnyH_take (i := 7) (oi := { dst := some 46, op := Op.binOp BinOp.eql 32 (Operand.tmp 44) (Operand.tmp 45) 32, type := 4, pos := "law.go:49", after := #[{ on := 5, ground := Ground.data }, { on := 6, ground := Ground.data }, { on := 4, ground := Ground.guard }], guard := some (4, true) }) (v := ?_) rfl (by kernel_rfl) (by kernel_rfl) (by kernel_rfl) (fun _ _ _ h => h) (Or.inl ⟨by rfl, ?_⟩) hH1 ?_
    rotate_left
    · intro w' hw'
      obtain ⟨⟨x0, x1, x2, x3, -, -, -, -, -, -, -⟩, ⟨y0, y1, y2, y3, -, -, -, -, -, -, -⟩, r0⟩ := hw'
      go_simp
      try with_reducible rfl
    try simp only [Act.put, List.setIfInBounds_toArray, List.set_cons_zero, List.set_cons_succ]
    refine wpAnyH_take (i := 8) (oi := { dst := some 47, op := Op.pick (Operand.tmp 43) (Operand.tmp 46) (Operand.const (Value.bool false)), type := 4, pos := "law.go:49", after := #[{ on := 4, ground := Ground.data }, { on := 7, ground := Ground.data }], guard := none }) (v := ?_) rfl (by kernel_rfl) (by kernel_rfl) (by kernel_rfl) (fun _ _ _ h => h) (Or.inl ⟨by rfl, ?_⟩) hH1 ?_
    rotate_left
    · intro w' hw'
      obtain ⟨⟨x0, x1, x2, x3, -, -, -, -, -, -, -⟩, ⟨y0, y1, y2, y3, -, -, -, -, -, -, -⟩, r0⟩ := hw'
      go_simp
      try with_reducible rfl
    try simp only [Act.put, List.setIfInBounds_toArray, List.set_cons_zero, List.set_cons_succ]
    refine wpAnyH_take (i := 9) (oi := { dst := some 48, op := Op.move (Operand.tmp 47), type := 4, pos := "law.go:49", after := #[{ on := 8, ground := Ground.data }, { on := 4, ground := Ground.chain }], guard := none }) (v := ?_) rfl (by kernel_rfl) (by kernel_rfl) (by kernel_rfl) (fun _ _ _ h => h) (Or.inl ⟨by rfl, ?_⟩) hH1 ?_
    rotate_left
    · intro w' hw'
      obtain ⟨⟨x0, x1, x2, x3, -, -, -, -, -, -, -⟩, ⟨y0, y1, y2, y3, -, -, -, -, -, -, -⟩, r0⟩ := hw'
      go_simp
      try with_reducible rfl
    try simp only [Act.put, List.setIfInBounds_toArray, List.set_cons_zero, List.set_cons_succ]
    refine wpAnyH_take (i := 10) (oi := { dst := some 49, op := Op.move (Operand.tmp 10), type := 32, pos := "law.go:49", after := #[{ on := 9, ground := Ground.guard }], guard := some (9, true) }) (v := ?_) rfl (by kernel_rfl) (by kernel_rfl) (by kernel_rfl) (fun _ _ _ h => h) (Or.inl ⟨by rfl, ?_⟩) hH1 ?_
    rotate_left
    · intro w' hw'
      obtain ⟨⟨x0, x1, x2, x3, -, -, -, -, -, -, -⟩, ⟨y0, y1, y2, y3, -, -, -, -, -, -, -⟩, r0⟩ := hw'
      go_simp
      try with_reducible rfl
    try simp only [Act.put, List.setIfInBounds_toArray, List.set_cons_zero, List.set_cons_succ]
    refine wpAnyH_take (i := 11) (oi := { dst := some 50, op := Op.binOp BinOp.neq 32 (Operand.tmp 49) (Operand.const (Value.int IntKind.i64 0)) 32, type := 4, pos := "law.go:49", after := #[{ on := 10, ground := Ground.data }, { on := 9, ground := Ground.guard }], guard := some (9, true) }) (v := ?_) rfl (by kernel_rfl) (by kernel_rfl) (by kernel_rfl) (fun _ _ _ h => h) (Or.inl ⟨by rfl, ?_⟩) hH1 ?_
    rotate_left
    · intro w' hw'
      obtain ⟨⟨x0, x1, x2, x3, -, -, -, -, -, -, -⟩, ⟨y0, y1, y2, y3, -, -, -, -, -, -, -⟩, r0⟩ := hw'
      go_simp
      try with_reducible rfl
    try simp only [Act.put, List.setIfInBounds_toArray, List.set_cons_zero, List.set_cons_succ]
    refine wpAnyH_take (i := 12) (oi := { dst := some 51, op := Op.move (Operand.tmp 50), type := 4, pos := "law.go:49", after := #[{ on := 11, ground := Ground.data }, { on := 9, ground := Ground.chain }, { on := 9, ground := Ground.guard }], guard := some (9, true) }) (v := ?_) rfl (by kernel_rfl) (by kernel_rfl) (by kernel_rfl) (fun _ _ _ h => h) (Or.inl ⟨by rfl, ?_⟩) hH1 ?_
    rotate_left
    · intro w' hw'
      obtain ⟨⟨x0, x1, x2, x3, -, -, -, -, -, -, -⟩, ⟨y0, y1, y2, y3, -, -, -, -, -, -, -⟩, r0⟩ := hw'
      go_simp
      try with_reducible rfl
    try simp only [Act.put, List.setIfInBounds_toArray, List.set_cons_zero, List.set_cons_succ]
    refine wpAnyH_take (i := 13) (oi := { dst := some 52, op := Op.move (Operand.tmp 7), type := 25, pos := "law.go:49", after := #[{ on := 12, ground := Ground.guard }], guard := some (12, false) }) (v := undef) rfl (by kernel_rfl) (by kernel_rfl) (by kernel_rfl) (fun _ _ _ h => h) (Or.inr ⟨by rfl, rfl⟩) hH1 ?_
    try simp only [Act.put, List.setIfInBounds_toArray, List.set_cons_zero, List.set_cons_succ]
    refine wpAnyH_take (i := 14) (oi := { dst := some 53, op := Op.call { callee := Callee.value (Operand.func 16), args := #[Operand.tmp 52], argTypes := #[25] }, type := 41, pos := "law.go:49", after := #[{ on := 13, ground := Ground.data }, { on := 12, ground := Ground.chain }, { on := 12, ground := Ground.guard }], guard := some (12, false) }) (v := undef) rfl (by kernel_rfl) (by kernel_rfl) (by kernel_rfl) (fun _ _ _ h => h) (Or.inr ⟨by rfl, rfl⟩) hH1 ?_
    try simp only [Act.put, List.setIfInBounds_toArray, List.set_cons_zero, List.set_cons_succ]
    refine wpAnyH_take (i := 15) (oi := { dst := some 54, op := Op.move (Operand.tmp 8), type := 27, pos := "law.go:49", after := #[{ on := 12, ground := Ground.guard }], guard := some (12, false) }) (v := undef) rfl (by kernel_rfl) (by kernel_rfl) (by kernel_rfl) (fun _ _ _ h => h) (Or.inr ⟨by rfl, rfl⟩) hH1 ?_
    try simp only [Act.put, List.setIfInBounds_toArray, List.set_cons_zero, List.set_cons_succ]
    refine wpAnyH_take (i := 16) (oi := { dst := some 55, op := Op.call { callee := Callee.value (Operand.func 17), args := #[Operand.tmp 54], argTypes := #[27] }, type := 41, pos := "law.go:49", after := #[{ on := 15, ground := Ground.data }, { on := 14, ground := Ground.chain }, { on := 12, ground := Ground.guard }], guard := some (12, false) }) (v := undef) rfl (by kernel_rfl) (by kernel_rfl) (by kernel_rfl) (fun _ _ _ h => h) (Or.inr ⟨by rfl, rfl⟩) hH1 ?_
    try simp only [Act.put, List.setIfInBounds_toArray, List.set_cons_zero, List.set_cons_succ]
    refine wpAnyH_take (i := 17) (oi := { dst := some 56, op := Op.call { callee := Callee.value (Operand.func 15), args := #[Operand.tmp 53, Operand.tmp 55], argTypes := #[41, 41] }, type := 4, pos := "law.go:49", after := #[{ on := 14, ground := Ground.data }, { on := 16, ground := Ground.data }, { on := 16, ground := Ground.chain }, { on := 12, ground := Ground.guard }], guard := some (12, false) }) (v := undef) rfl (by kernel_rfl) (by kernel_rfl) (by kernel_rfl) (fun _ _ _ h => h) (Or.inr ⟨by rfl, rfl⟩) hH1 ?_
    try simp only [Act.put, List.setIfInBounds_toArray, List.set_cons_zero, List.set_cons_succ]
    refine wpAnyH_take (i := 18) (oi := { dst := some 57, op := Op.move (Operand.tmp 56), type := 4, pos := "law.go:49", after := #[{ on := 17, ground := Ground.data }, { on := 17, ground := Ground.chain }, { on := 12, ground := Ground.guard }], guard := some (12, false) }) (v := undef) rfl (by kernel_rfl) (by kernel_rfl) (by kernel_rfl) (fun _ _ _ h => h) (Or.inr ⟨by rfl, rfl⟩) hH1 ?_
    try simp only [Act.put, List.setIfInBounds_toArray, List.set_cons_zero, List.set_cons_succ]
    refine wpAnyH_take (i := 19) (oi := { dst := some 58, op := Op.move (Operand.tmp 7), type := 25, pos := "law.go:49", after := #[{ on := 18, ground := Ground.guard }], guard := some (18, true) }) (v := undef) rfl (by kernel_rfl) (by kernel_rfl) (by kernel_rfl) (fun _ _ _ h => h) (Or.inr ⟨by rfl, rfl⟩) hH1 ?_
    try simp only [Act.put, List.setIfInBounds_toArray, List.set_cons_zero, List.set_cons_succ]
    refine wpAnyH_take (i := 20) (oi := { dst := some 59, op := Op.call { callee := Callee.value (Operand.func 18), args := #[Operand.tmp 58], argTypes := #[25] }, type := 3, pos := "law.go:49", after := #[{ on := 19, ground := Ground.data }, { on := 18, ground := Ground.chain }, { on := 18, ground := Ground.guard }], guard := some (18, true) }) (v := undef) rfl (by kernel_rfl) (by kernel_rfl) (by kernel_rfl) (fun _ _ _ h => h) (Or.inr ⟨by rfl, rfl⟩) hH1 ?_
    try simp only [Act.put, List.setIfInBounds_toArray, List.set_cons_zero, List.set_cons_succ]
    refine wpAnyH_take (i := 21) (oi := { dst := some 60, op := Op.move (Operand.tmp 8), type := 27, pos := "law.go:49", after := #[{ on := 18, ground := Ground.guard }], guard := some (18, true) }) (v := undef) rfl (by kernel_rfl) (by kernel_rfl) (by kernel_rfl) (fun _ _ _ h => h) (Or.inr ⟨by rfl, rfl⟩) hH1 ?_
    try simp only [Act.put, List.setIfInBounds_toArray, List.set_cons_zero, List.set_cons_succ]
    refine wpAnyH_take (i := 22) (oi := { dst := some 61, op := Op.nilCheck (Operand.tmp 60), type := 0, pos := "law.go:49", after := #[{ on := 21, ground := Ground.data }, { on := 18, ground := Ground.guard }], guard := some (18, true) }) (v := undef) rfl (by kernel_rfl) (by kernel_rfl) (by kernel_rfl) (fun _ _ _ h => h) (Or.inr ⟨by rfl, rfl⟩) hH1 ?_
    try simp only [Act.put, List.setIfInBounds_toArray, List.set_cons_zero, List.set_cons_succ]
    refine wpAnyH_take (i := 23) (oi := { dst := some 62, op := Op.fieldAddr 30 (Operand.tmp 61) 0, type := 0, pos := "law.go:49", after := #[{ on := 22, ground := Ground.data }, { on := 18, ground := Ground.guard }], guard := some (18, true) }) (v := undef) rfl (by kernel_rfl) (by kernel_rfl) (by kernel_rfl) (fun _ _ _ h => h) (Or.inr ⟨by rfl, rfl⟩) hH1 ?_
    try simp only [Act.put, List.setIfInBounds_toArray, List.set_cons_zero, List.set_cons_succ]
    refine wpAnyH_take (i := 24) (oi := { dst := some 63, op := Op.load 28 (Operand.tmp 62), type := 28, pos := "law.go:49", after := #[{ on := 23, ground := Ground.data }, { on := 18, ground := Ground.guard }], guard := some (18, true) }) (v := undef) rfl (by kernel_rfl) (by kernel_rfl) (by kernel_rfl) (fun _ _ _ h => h) (Or.inr ⟨by rfl, rfl⟩) hH1 ?_
    try simp only [Act.put, List.setIfInBounds_toArray, List.set_cons_zero, List.set_cons_succ]
    refine wpAnyH_take (i := 25) (oi := { dst := some 64, op := Op.call { callee := Callee.builtin Builtin.len, args := #[Operand.tmp 63], argTypes := #[28] }, type := 3, pos := "law.go:49", after := #[{ on := 24, ground := Ground.data }, { on := 18, ground := Ground.guard }], guard := some (18, true) }) (v := undef) rfl (by kernel_rfl) (by kernel_rfl) (by kernel_rfl) (fun _ _ _ h => h) (Or.inr ⟨by rfl, rfl⟩) hH1 ?_
    try simp only [Act.put, List.setIfInBounds_toArray, List.set_cons_zero, List.set_cons_succ]
    refine wpAnyH_take (i := 26) (oi := { dst := some 65, op := Op.binOp BinOp.eql 3 (Operand.tmp 59) (Operand.tmp 64) 3, type := 4, pos := "law.go:49", after := #[{ on := 20, ground := Ground.data }, { on := 25, ground := Ground.data }, { on := 18, ground := Ground.guard }], guard := some (18, true) }) (v := undef) rfl (by kernel_rfl) (by kernel_rfl) (by kernel_rfl) (fun _ _ _ h => h) (Or.inr ⟨by rfl, rfl⟩) hH1 ?_
    try simp only [Act.put, List.setIfInBounds_toArray, List.set_cons_zero, List.set_cons_succ]
    refine wpAnyH_take (i := 27) (oi := { dst := some 66, op := Op.pick (Operand.tmp 57) (Operand.tmp 65) (Operand.const (Value.bool false)), type := 4, pos := "law.go:49", after := #[{ on := 18, ground := Ground.data }, { on := 26, ground := Ground.data }, { on := 12, ground := Ground.guard }], guard := some (12, false) }) (v := undef) rfl (by kernel_rfl) (by kernel_rfl) (by kernel_rfl) (fun _ _ _ h => h) (Or.inr ⟨by rfl, rfl⟩) hH1 ?_
    try simp only [Act.put, List.setIfInBounds_toArray, List.set_cons_zero, List.set_cons_succ]
    refine wpAnyH_take (i := 28) (oi := { dst := some 67, op := Op.pick (Operand.tmp 51) (Operand.const (Value.bool true)) (Operand.tmp 66), type := 4, pos := "law.go:49", after := #[{ on := 12, ground := Ground.data }, { on := 27, ground := Ground.data }, { on := 9, ground := Ground.guard }], guard := some (9, true) }) (v := ?_) rfl (by kernel_rfl) (by kernel_rfl) (by kernel_rfl) (fun _ _ _ h => h) (Or.inl ⟨by rfl, ?_⟩) hH1 ?_
    rotate_left
    · intro w' hw'
      obtain ⟨⟨x0, x1, x2, x3, -, -, -, -, -, -, -⟩, ⟨y0, y1, y2, y3, -, -, -, -, -, -, -⟩, r0⟩ := hw'
      go_simp
      try with_reducible rfl
    try simp only [Act.put, List.setIfInBounds_toArray, List.set_cons_zero, List.set_cons_succ]
    refine wpAnyH_take (i := 29) (oi := { dst := some 68, op := Op.pick (Operand.tmp 48) (Operand.tmp 67) (Operand.const (Value.bool false)), type := 4, pos := "law.go:49", after := #[{ on := 9, ground := Ground.data }, { on := 28, ground := Ground.data }], guard := none }) (v := ?_) rfl (by kernel_rfl) (by kernel_rfl) (by kernel_rfl) (fun _ _ _ h => h) (Or.inl ⟨by rfl, ?_⟩) hH1 ?_
    rotate_left
    · intro w' hw'
      obtain ⟨⟨x0, x1, x2, x3, -, -, -, -, -, -, -⟩, ⟨y0, y1, y2, y3, -, -, -, -, -, -, -⟩, r0⟩ := hw'
      go_simp
      try with_reducible rfl
    try simp only [Act.put, List.setIfInBounds_toArray, List.set_cons_zero, List.set_cons_succ]
    refine wpAnyH_take (i := 30) (oi := { dst := some 69, op := Op.move (Operand.tmp 68), type := 4, pos := "law.go:49", after := #[{ on := 29, ground := Ground.data }, { on := 20, ground := Ground.chain }], guard := none }) (v := ?_) rfl (by kernel_rfl) (by kernel_rfl) (by kernel_rfl) (fun _ _ _ h => h) (Or.inl ⟨by rfl, ?_⟩) hH1 ?_
    rotate_left
    · intro w' hw'
      obtain ⟨⟨x0, x1, x2, x3, -, -, -, -, -, -, -⟩, ⟨y0, y1, y2, y3, -, -, -, -, -, -, -⟩, r0⟩ := hw'
      go_simp
      try with_reducible rfl
    try simp only [Act.put, List.setIfInBounds_toArray, List.set_cons_zero, List.set_cons_succ]
    refine wpAnyH_ready (rs := [31]) (by kernel_rfl) (by simp) ?_
    refine AllReadyH.cons (o := { dst := some 70, op := Op.call { callee := Callee.value (Operand.func 19), args := #[], argTypes := #[] }, type := 24, pos := "law.go:49", after := #[{ on := 30, ground := Ground.chain }, { on := 30, ground := Ground.guard }], guard := some (30, true) }) rfl (fun K hK => ?_) AllReadyH.nil
    go_simp
    refine (begin_any _).mono ?_
    rintro e w11 ⟨rfl, b11⟩
    have E11 := hide (E8.out.below b11)
    have X11 := hide (X8.out.below b11)
    have Y11 := hide (Y8.out.below b11)
    clear E8 X8 Y8
    refine hK.out _ _ ⟨X11.out.st4, Y11.out.st4, E11.out.rw.c0⟩ (fun hH2 => ?_)
    clear hK
    try simp only [Act.put, List.setIfInBounds_toArray, List.set_cons_zero, List.set_cons_succ]
    refine wpAnyH_ready (rs := [32]) (by kernel_rfl) (by simp) ?_
    refine AllReadyH.cons (o := { dst := some 71, op := Op.call { callee := Callee.value (Operand.func 14), args := #[Operand.tmp 70], argTypes := #[24] }, type := 36, pos := "law.go:49", after := #[{ on := 31, ground := Ground.data }, { on := 31, ground := Ground.chain }, { on := 30, ground := Ground.guard }], guard := some (30, true) }) rfl (fun K hK => ?_) AllReadyH.nil
    go_simp
    refine (plain_any _ _ _ _ _).mono ?_
    rintro e w12 ⟨rfl, b12⟩
    have E12 := hide (E11.out.below b12)
    have X12 := hide (X11.out.below b12)
    have Y12 := hide (Y11.out.below b12)
    clear E11 X11 Y11
    refine hK.out _ _ ⟨X12.out.st4, Y12.out.st4, E12.out.rw.c0⟩ (fun hH3 => ?_)
    clear hK
    try simp only [Act.put, List.setIfInBounds_toArray, List.set_cons_zero, List.set_cons_succ]
    refine wpAnyH_ready (rs := [33]) (by kernel_rfl) (by simp) ?_
    refine AllReadyH.cons (o := { dst := some 72, op := Op.call { callee := Callee.value (Operand.func 20), args := #[], argTypes := #[] }, type := 36, pos := "law.go:49", after := #[{ on := 32, ground := Ground.chain }, { on := 30, ground := Ground.guard }], guard := some (30, true) }) rfl (fun K hK => ?_) AllReadyH.nil
    go_simp
    refine (rbegin_any _).mono ?_
    rintro e w13 ⟨rfl, b13⟩
    have E13 := hide (E12.out.below b13)
    have X13 := hide (X12.out.below b13)
    have Y13 := hide (Y12.out.below b13)
    clear E12 X12 Y12
    refine hK.out _ _ ⟨X13.out.st4, Y13.out.st4, E13.out.rw.c0⟩ (fun hH4 => ?_)
    clear hK
    try simp only [Act.put, List.setIfInBounds_toArray, List.set_cons_zero, List.set_cons_succ]
    refine wpAnyH_take (i := 34) (oi := { dst := some 73, op := Op.binOp BinOp.eql 36 (Operand.tmp 71) (Operand.tmp 72) 36, type := 4, pos := "law.go:49", after := #[{ on := 32, ground := Ground.data }, { on := 33, ground := Ground.data }, { on := 30, ground := Ground.guard }], guard := some (30, true) }) (v := ?_) rfl (by kernel_rfl) (by kernel_rfl) (by kernel_rfl) (fun _ _ _ h => h) (Or.inl ⟨by rfl, ?_⟩) hH4 ?_
    rotate_left
    · intro w' hw'
      obtain ⟨⟨x0, x1, x2, x3, -, -, -, -, -, -, -⟩, ⟨y0, y1, y2, y3, -, -, -, -, -, -, -⟩, r0⟩ := hw'
      go_simp
      try with_reducible rfl
    try simp only [Act.put, List.setIfInBounds_toArray, List.set_cons_zero, List.set_cons_succ]
    refine wpAnyH_take (i := 35) (oi := { dst := some 74, op := Op.pick (Operand.tmp 69) (Operand.tmp 73) (Operand.const (Value.bool false)), type := 4, pos := "law.go:49", after := #[{ on := 30, ground := Ground.data }, { on := 34, ground := Ground.data }], guard := none }) (v := ?_) rfl (by kernel_rfl) (by kernel_rfl) (by kernel_rfl) (fun _ _ _ h => h) (Or.inl ⟨by rfl, ?_⟩) hH4 ?_
    rotate_left
    · intro w' hw'
      obtain ⟨⟨x0, x1, x2, x3, -, -, -, -, -, -, -⟩, ⟨y0, y1, y2, y3, -, -, -, -, -, -, -⟩, r0⟩ := hw'
      go_simp
      try with_reducible rfl
    try simp only [Act.put, List.setIfInBounds_toArray, List.set_cons_zero, List.set_cons_succ]
    refine wpAnyH_take (i := 36) (oi := { dst := some 75, op := Op.move (Operand.tmp 74), type := 4, pos := "law.go:49", after := #[{ on := 35, ground := Ground.data }, { on := 33, ground := Ground.chain }], guard := none }) (v := ?_) rfl (by kernel_rfl) (by kernel_rfl) (by kernel_rfl) (fun _ _ _ h => h) (Or.inl ⟨by rfl, ?_⟩) hH4 ?_
    rotate_left
    · intro w' hw'
      obtain ⟨⟨x0, x1, x2, x3, -, -, -, -, -, -, -⟩, ⟨y0, y1, y2, y3, -, -, -, -, -, -, -⟩, r0⟩ := hw'
      go_simp
      try with_reducible rfl
    try simp only [Act.put, List.setIfInBounds_toArray, List.set_cons_zero, List.set_cons_succ]
    refine wpAnyH_ready (rs := [37]) (by kernel_rfl) (by simp) ?_
    refine AllReadyH.cons (o := { dst := some 76, op := Op.call { callee := Callee.value (Operand.func 21), args := #[], argTypes := #[] }, type := 4, pos := "law.go:49", after := #[{ on := 36, ground := Ground.chain }, { on := 36, ground := Ground.guard }], guard := some (36, true) }) rfl (fun K hK => ?_) AllReadyH.nil
    go_simp
    refine (works_any _ E13.out.t).mono ?_
    rintro e w14 ⟨rfl, b14⟩
    have E14 := hide (E13.out.below b14)
    have X14 := hide (X13.out.below b14)
    have Y14 := hide (Y13.out.below b14)
    clear E13 X13 Y13
    refine hK.out _ _ ⟨X14.out.st4, Y14.out.st4, E14.out.rw.c0⟩ (fun hH5 => ?_)
    clear hK
    try simp only [Act.put, List.setIfInBounds_toArray, List.set_cons_zero, List.set_cons_succ]
    refine wpAnyH_take (i := 38) (oi := { dst := some 77, op := Op.pick (Operand.tmp 75) (Operand.tmp 76) (Operand.const (Value.bool false)), type := 4, pos := "law.go:49", after := #[{ on := 36, ground := Ground.data }, { on := 37, ground := Ground.data }], guard := none }) (v := ?_) rfl (by kernel_rfl) (by kernel_rfl) (by kernel_rfl) (fun _ _ _ h => h) (Or.inl ⟨by rfl, ?_⟩) hH5 ?_
    rotate_left
    · intro w' hw'
      obtain ⟨⟨x0, x1, x2, x3, -, -, -, -, -, -, -⟩, ⟨y0, y1, y2, y3, -, -, -, -, -, -, -⟩, r0⟩ := hw'
      go_simp
      try with_reducible rfl
    try simp only [Act.put, List.setIfInBounds_toArray, List.set_cons_zero, List.set_cons_succ]
    refine wpAnyH_take (i := 39) (oi := { dst := some 6, op := Op.assign (Operand.tmp 77), type := 4, pos := "law.go:49", after := #[{ on := 38, ground := Ground.data }, { on := 37, ground := Ground.chain }, { on := 0, ground := Ground.phase }, { on := 1, ground := Ground.phase }, { on := 2, ground := Ground.phase }, { on := 3, ground := Ground.phase }, { on := 4, ground := Ground.phase }, { on := 5, ground := Ground.phase }, { on := 6, ground := Ground.phase }, { on := 7, ground := Ground.phase }, { on := 8, ground := Ground.phase }, { on := 9, ground := Ground.phase }, { on := 10, ground := Ground.phase }, { on := 11, ground := Ground.phase }, { on := 12, ground := Ground.phase }, { on := 13, ground := Ground.phase }, { on := 14, ground := Ground.phase }, { on := 15, ground := Ground.phase }, { on := 16, ground := Ground.phase }, { on := 17, ground := Ground.phase }, { on := 18, ground := Ground.phase }, { on := 19, ground := Ground.phase }, { on := 20, ground := Ground.phase }, { on := 21, ground := Ground.phase }, { on := 22, ground := Ground.phase }, { on := 23, ground := Ground.phase }, { on := 24, ground := Ground.phase }, { on := 25, ground := Ground.phase }, { on := 26, ground := Ground.phase }, { on := 27, ground := Ground.phase }, { on := 28, ground := Ground.phase }, { on := 29, ground := Ground.phase }, { on := 30, ground := Ground.phase }, { on := 31, ground := Ground.phase }, { on := 32, ground := Ground.phase }, { on := 33, ground := Ground.phase }, { on := 34, ground := Ground.phase }, { on := 35, ground := Ground.phase }, { on := 36, ground := Ground.phase }, { on := 37, ground := Ground.phase }, { on := 38, ground := Ground.phase }], guard := none }) (v := ?_) rfl (by kernel_rfl) (by kernel_rfl) (by kernel_rfl) (fun _ _ _ h => h) (Or.inl ⟨by rfl, ?_⟩) hH5 ?_
    rotate_left
    · intro w' hw'
      obtain ⟨⟨x0, x1, x2, x3, -, -, -, -, -, -, -⟩, ⟨y0, y1, y2, y3, -, -, -, -, -, -, -⟩, r0⟩ := hw'
      go_simp
      try with_reducible rfl
    try simp only [Act.put, List.setIfInBounds_toArray, List.set_cons_zero, List.set_cons_succ]
    refine wpAnyH_done (by kernel_rfl) ?_ _
    refine NoPanic.normal ?_
    go_wp2_with fail
    go_ret
    exact ⟨rfl, E14.out.bel⟩
  · obtain ⟨n0, a0, b0, rfl, rfl, rfl, hs⟩ := okS_of hok
    have P4 := hide (putX E3.out.wr E3.out.t hpos.out hs hL.out hV.out (by have := hM.out; omega))
    have RP := hide (fun wx u M (h : RW wx w.heap.size r u M) (hM : M.length < 20) => rputX (w := wx) (v := u) (M := M) h hs hL.out hV.out (by omega))
    have hcn := hide (cN_le hs hL.out hV.out)
    clear hok hs
    generalize n0 + 1 = n1 at *
    generalize cA n0 L a0 b0 V = a1 at *
    generalize cB n0 L a0 b0 V = b1 at *
    generalize cN n0 L a0 b0 V = Y at *
    generalize cX n0 L a0 b0 V = X at *
    have heqA : ∀ w, (binOp .eql 36 (.agg #[.int .i64 (n1 : Int), .int .u64 (V : Int), .int .i64 (a1 : Int), .int .i64 (b1 : Int)]) (.agg #[.int .i64 (n1 : Int), .int .u64 (V : Int), .int .i64 (a1 : Int), .int .i64 (b1 : Int)])).run Tryd.prog w = .ok (.bool true) w := fun w => by rw [run_eql36]; simp
    have heqB : ∀ w, (binOp .eql 36 (.agg #[.int .i64 0, .int .u64 0, .int .i64 64, .int .i64 0]) (.agg #[.int .i64 0, .int .u64 0, .int .i64 64, .int .i64 0])).run Tryd.prog w = .ok (.bool true) w := fun w => by rw [run_eql36]; simp
    have s0 := S3.out.st4.c0
    have s1 := S3.out.st4.c1
    have s2 := S3.out.st4.c2
    have s3 := S3.out.st4.c3
    go_wp2_with fail
    refine P4.out.mono ?_
    rintro e w4 ⟨rfl, v4, W4, D4⟩
    have E4' := E3.out.put1 D4 W4
    have S4' := S3.out.did D4 f1.out
    have X4 := hide (Bx.new w4 24 #[.int .i64 (n1 : Int), .int .u64 (V : Int), .int .i64 (a1 : Int), .int .i64 (b1 : Int)])
    have nX := hide (E4'.rw.not (Nat.le_refl _))
    have E4 := hide (E4'.alloc (.cells #[.int .i64 (n1 : Int), .int .u64 (V : Int), .int .i64 (a1 : Int), .int .i64 (b1 : Int)] 24))
    have S4 := hide (S4'.alloc (.cells #[.int .i64 (n1 : Int), .int .u64 (V : Int), .int .i64 (a1 : Int), .int .i64 (b1 : Int)] 24))
    clear P4 E3 S3 f1 W4 D4 E4' S4' s0 s1 s2 s3
    have s0 := S4.out.st4.c0
    have s1 := S4.out.st4.c1
    have s2 := S4.out.st4.c2
    have s3 := S4.out.st4.c3
    go_wp2_with fail
    refine (plain_any _ _ _ _ _).mono ?_
    rintro e w5 ⟨rfl, b5⟩
    have E5 := hide (E4.out.below b5)
    have X5 := hide (X4.out.below b5)
    clear E4 X4 S4 b5 s0 s1 s2 s3
    go_wp2_with fail
    refine (RP.out _ _ _ E5.out.rw hM.out).mono ?_
    rintro e w6 ⟨rfl, u6, M6, W6, n6, l6', D6⟩
    have E6' := E5.out.put2 D6 W6
    have X6' := X5.out.did D6 nX.out
    have Y6 := hide (Bx.new w6 36 #[.int .i64 (n1 : Int), .int .u64 (V : Int), .int .i64 (a1 : Int), .int .i64 (b1 : Int)])
    have E6 := hide (E6'.alloc (.cells #[.int .i64 (n1 : Int), .int .u64 (V : Int), .int .i64 (a1 : Int), .int .i64 (b1 : Int)] 36))
    have X6 := hide (X6'.alloc (.cells #[.int .i64 (n1 : Int), .int .u64 (V : Int), .int .i64 (a1 : Int), .int .i64 (b1 : Int)] 36))
    rw [← n6, ← l6'] at E6
    have hrm := hide (show M6.length ≤ 1000 by have := hcn.out; have := hM.out; omega)
    obtain ⟨a6, c6, hu⟩ := E6'.rw.slice
    obtain ⟨l6, hl6⟩ : ∃ l6, M6.length = l6 := ⟨_, rfl⟩
    rw [hl6] at hu E6
    subst hu
    replace hl6 := hide hl6
    obtain ⟨lB, hlB⟩ := E6.out.wr.holds
    replace hlB := hide hlB
    replace l6' := hide l6'
    clear E5 X5 nX E6' X6' W6 D6 RP n6
    go_upto_region 7 with fail
    obtain ⟨gX, hgX⟩ : ∃ g, g = w4.heap.size := ⟨_, rfl⟩
    obtain ⟨gY, hgY⟩ : ∃ g, g = w6.heap.size := ⟨_, rfl⟩
    obtain ⟨w7, hw7⟩ : ∃ w7, w7 = w6.alloc (.cells #[.int .i64 (n1 : Int), .int .u64 (V : Int), .int .i64 (a1 : Int), .int .i64 (b1 : Int)] 36) := ⟨_, rfl⟩
    simp only [← hgX, ← hgY, ← hw7] at E6 X6 Y6 ⊢
    clear hgX hgY hw7
    refine wp_region_noPanic ?_
    refine wp_region_held_drew (S := (fun w' => St4 w' gX (.int .i64 (n1 : Int)) (.int .u64 (V : Int)) (.int .i64 (a1 : Int)) (.int .i64 (b1 : Int)) ∧ St4 w' gY (.int .i64 (n1 : Int)) (.int .u64 (V : Int)) (.int .i64 (a1 : Int)) (.int .i64 (b1 : Int)) ∧ w'.cell? ⟨r, 0, none⟩ = some (.slice a6 l6 c6))) (by kernel_rfl) ⟨X6.out.drew.st4, Y6.out.drew.st4, E6.out.drew.rw.c0⟩ (fun hH0 => ?_)
    have E7 := hide E6.out.drew
    have X7 := hide X6.out.drew
    have Y7 := hide Y6.out.drew
    clear E6 X6 Y6
    refine wpAnyH_take (i := 0) (oi := { dst := some 39, op := Op.load 24 (Operand.tmp 9), type := 24, pos := "law.go:49", after := #[], guard := none }) (v := ?_) rfl (by kernel_rfl) (by kernel_rfl) (by kernel_rfl) (fun _ _ _ h => h) (Or.inl ⟨by rfl, ?_⟩) hH0 ?_
    rotate_left
    · intro w' hw'
      obtain ⟨⟨x0, x1, x2, x3, -, -, -, -, -, -, -⟩, ⟨y0, y1, y2, y3, -, -, -, -, -, -, -⟩, r0⟩ := hw'
      go_simp
      try with_reducible rfl
    try simp only [Act.put, List.setIfInBounds_toArray, List.set_cons_zero, List.set_cons_succ]
    refine wpAnyH_take (i := 2) (oi := { dst := some 41, op := Op.load 36 (Operand.tmp 11), type := 36, pos := "law.go:49", after := #[], guard := none }) (v := ?_) rfl (by kernel_rfl) (by kernel_rfl) (by kernel_rfl) (fun _ _ _ h => h) (Or.inl ⟨by rfl, ?_⟩) hH0 ?_
    rotate_left
    · intro w' hw'
      obtain ⟨⟨x0, x1, x2, x3, -, -, -, -, -, -, -⟩, ⟨y0, y1, y2, y3, -, -, -, -, -, -, -⟩, r0⟩ := hw'
      go_simp
      try with_reducible rfl
    try simp only [Act.put, List.setIfInBounds_toArray, List.set_cons_zero, List.set_cons_succ]
    refine wpAnyH_ready (rs := [1]) (by kernel_rfl) (by simp) ?_
    refine AllReadyH.cons (o := { dst := some 40, op := Op.call { callee := Callee.value (Operand.func 14), args := #[Operand.tmp 39], argTypes := #[24] }, type := 36, pos := "law.go:49", after := #[{ on := 0, ground := Ground.data }], guard := none }) rfl (fun K hK => ?_) AllReadyH.nil
    go_simp
    refine (plain_any _ _ _ _ _).mono ?_
    rintro e w8 ⟨rfl, b8⟩
    have E8 := hide (E7.out.below b8)
    have X8 := hide (X7.out.below b8)
    have Y8 := hide (Y7.out.below b8)
    clear E7 X7 Y7
    refine hK.out _ _ ⟨X8.out.st4, Y8.out.st4, E8.out.rw.c0⟩ (fun hH1 => ?_)
    clear hK
    try simp only [Act.put, List.setIfInBounds_toArray, List.set_cons_zero, List.set_cons_succ]
    refine wpAnyH_take (i := 3) (oi := { dst := some 42, op := Op.binOp BinOp.eql 36 (Operand.tmp 40) (Operand.tmp 41) 36, type := 4, pos := "law.go:49", after := #[{ on := 1, ground := Ground.data }, { on := 2, ground := Ground.data }], guard := none }) (v := ?_) rfl (by kernel_rfl) (by kernel_rfl) (by kernel_rfl) (fun _ _ _ h => h) (Or.inl ⟨by rfl, ?_⟩) hH1 ?_
    rotate_left
    · intro w' hw'
      obtain ⟨⟨x0, x1, x2, x3, -, -, -, -, -, -, -⟩, ⟨y0, y1, y2, y3, -, -, -, -, -, -, -⟩, r0⟩ := hw'
      go_simp
      try with_reducible rfl
    try simp only [Act.put, List.setIfInBounds_toArray, List.set_cons_zero, List.set_cons_succ]
    refine wpAnyH_take (i := 4) (oi := { dst := some 43, op := Op.move (Operand.tmp 42), type := 4, pos := "law.go:49", after := #[{ on := 3, ground := Ground.data }, { on := 1, ground := Ground.chain }], guard := none }) (v := ?_) rfl (by kernel_rfl) (by kernel_rfl) (by kernel_rfl) (fun _ _ _ h => h) (Or.inl ⟨by rfl, ?_⟩) hH1 ?_
    rotate_left
    · intro w' hw'
      obtain ⟨⟨x0, x1, x2, x3, -, -, -, -, -, -, -⟩, ⟨y0, y1, y2, y3, -, -, -, -, -, -, -⟩, r0⟩ := hw'
      go_simp
      try with_reducible rfl
    try simp only [Act.put, List.setIfInBounds_toArray, List.set_cons_zero, List.set_cons_succ]
    refine wpAnyH_take (i := 5) (oi := { dst := some 44, op := Op.move (Operand.tmp 10), type := 32, pos := "law.go:49", after := #[{ on := 4, ground := Ground.guard }], guard := some (4, true) }) (v := ?_) rfl (by kernel_rfl) (by kernel_rfl) (by kernel_rfl) (fun _ _ _ h => h) (Or.inl ⟨by rfl, ?_⟩) hH1 ?_
    rotate_left
    · intro w' hw'
      obtain ⟨⟨x0, x1, x2, x3, -, -, -, -, -, -, -⟩, ⟨y0, y1, y2, y3, -, -, -, -, -, -, -⟩, r0⟩ := hw'
      go_simp
      try with_reducible rfl
    try simp only [Act.put, List.setIfInBounds_toArray, List.set_cons_zero, List.set_cons_succ]
    refine wpAnyH_take (i := 6) (oi := { dst := some 45, op := Op.move (Operand.tmp 12), type := 32, pos := "law.go:49", after := #[{ on := 4, ground := Ground.guard }], guard := some (4, true) }) (v := ?_) rfl (by kernel_rfl) (by kernel_rfl) (by kernel_rfl) (fun _ _ _ h => h) (Or.inl ⟨by rfl, ?_⟩) hH1 ?_
    rotate_left
    · intro w' hw'
      obtain ⟨⟨x0, x1, x2, x3, -, -, -, -, -, -, -⟩, ⟨y0, y1, y2, y3, -, -, -, -, -, -, -⟩, r0⟩ := hw'
      go_simp
      try with_reducible rfl
    try simp only [Act.put, List.setIfInBounds_toArray, List.set_cons_zero, List.set_cons_succ]
    refine wpAnyH_take (i := 7) (oi := { dst := some 46, op := Op.binOp BinOp.eql 32 (Operand.tmp 44) (Operand.tmp 45) 32, type := 4, pos := "law.go:49", after := #[{ on := 5, ground := Ground.data }, { on := 6, ground := Ground.data }, { on := 4, ground := Ground.guard }], guard := some (4, true) }) (v := ?_) rfl (by kernel_rfl) (by kernel_rfl) (by kernel_rfl) (fun _ _ _ h => h) (Or.inl ⟨by rfl, ?_⟩) hH1 ?_
    rotate_left
    · intro w' hw'
      obtain ⟨⟨x0, x1, x2, x3, -, -, -, -, -, -, -⟩, ⟨y0, y1, y2, y3, -, -, -, -, -, -, -⟩, r0⟩ := hw'
      go_simp
      try with_reducible rfl
    try simp only [Act.put, List.setIfInBounds_toArray, List.set_cons_zero, List.set_cons_succ]
    refine wpAnyH_take (i := 8) (oi := { dst := some 47, op := Op.pick (Operand.tmp 43) (Operand.tmp 46) (Operand.const (Value.bool false)), type := 4, pos := "law.go:49", after := #[{ on := 4, ground := Ground.data }, { on := 7, ground := Ground.data }], guard := none }) (v := ?_) rfl (by kernel_rfl) (by kernel_rfl) (by kernel_rfl) (fun _ _ _ h => h) (Or.inl ⟨by rfl, ?_⟩) hH1 ?_
    rotate_left
    · intro w' hw'
      obtain ⟨⟨x0, x1, x2, x3, -, -, -, -, -, -, -⟩, ⟨y0, y1, y2, y3, -, -, -, -, -, -, -⟩, r0⟩ := hw'
      go_simp
      try with_reducible rfl
    try simp only [Act.put, List.setIfInBounds_toArray, List.set_cons_zero, List.set_cons_succ]
    refine wpAnyH_take (i := 9) (oi := { dst := some 48, op := Op.move (Operand.tmp 47), type := 4, pos := "law.go:49", after := #[{ on := 8, ground := Ground.data }, { on := 4, ground := Ground.chain }], guard := none }) (v := ?_) rfl (by kernel_rfl) (by kernel_rfl) (by kernel_rfl) (fun _ _ _ h => h) (Or.inl ⟨by rfl, ?_⟩) hH1 ?_
    rotate_left
    · intro w' hw'
      obtain ⟨⟨x0, x1, x2, x3, -, -, -, -, -, -, -⟩, ⟨y0, y1, y2, y3, -, -, -, -, -, -, -⟩, r0⟩ := hw'
      go_simp
      try with_reducible rfl
    try simp only [Act.put, List.setIfInBounds_toArray, List.set_cons_zero, List.set_cons_succ]
    refine wpAnyH_take (i := 10) (oi := { dst := some 49, op := Op.move (Operand.tmp 10), type := 32, pos := "law.go:49", after := #[{ on := 9, ground := Ground.guard }], guard := some (9, true) }) (v := ?_) rfl (by kernel_rfl) (by kernel_rfl) (by kernel_rfl) (fun _ _ _ h => h) (Or.inl ⟨by rfl, ?_⟩) hH1 ?_
    rotate_left
    · intro w' hw'
      obtain ⟨⟨x0, x1, x2, x3, -, -, -, -, -, -, -⟩, ⟨y0, y1, y2, y3, -, -, -, -, -, -, -⟩, r0⟩ := hw'
      go_simp
      try with_reducible rfl
    try simp only [Act.put, List.setIfInBounds_toArray, List.set_cons_zero, List.set_cons_succ]
    refine wpAnyH_take (i := 11) (oi := { dst := some 50, op := Op.binOp BinOp.neq 32 (Operand.tmp 49) (Operand.const (Value.int IntKind.i64 0)) 32, type := 4, pos := "law.go:49", after := #[{ on := 10, ground := Ground.data }, { on := 9, ground := Ground.guard }], guard := some (9, true) }) (v := ?_) rfl (by kernel_rfl) (by kernel_rfl) (by kernel_rfl) (fun _ _ _ h => h) (Or.inl ⟨by rfl, ?_⟩) hH1 ?_
    rotate_left
    · intro w' hw'
      obtain ⟨⟨x0, x1, x2, x3, -, -, -, -, -, -, -⟩, ⟨y0, y1, y2, y3, -, -, -, -, -, -, -⟩, r0⟩ := hw'
      go_simp
      try with_reducible rfl
    try simp only [Act.put, List.setIfInBounds_toArray, List.set_cons_zero, List.set_cons_succ]
    refine wpAnyH_take (i := 12) (oi := { dst := some 51, op := Op.move (Operand.tmp 50), type := 4, pos := "law.go:49", after := #[{ on := 11, ground := Ground.data }, { on := 9, ground := Ground.chain }, { on := 9, ground := Ground.guard }], guard := some (9, true) }) (v := ?_) rfl (by kernel_rfl) (by kernel_rfl) (by kernel_rfl) (fun _ _ _ h => h) (Or.inl ⟨by rfl, ?_⟩) hH1 ?_
    rotate_left
    · intro w' hw'
      obtain ⟨⟨x0, x1, x2, x3, -, -, -, -, -, -, -⟩, ⟨y0, y1, y2, y3, -, -, -, -, -, -, -⟩, r0⟩ := hw'
      go_simp
      try with_reducible rfl
    try simp only [Act.put, List.setIfInBounds_toArray, List.set_cons_zero, List.set_cons_succ]
    refine wpAnyH_take (i := 13) (oi := { dst := some 52, op := Op.move (Operand.tmp 7), type := 25, pos := "law.go:49", after := #[{ on := 12, ground := Ground.guard }], guard := some (12, false) }) (v := ?_) rfl (by kernel_rfl) (by kernel_rfl) (by kernel_rfl) (fun _ _ _ h => h) (Or.inl ⟨by rfl, ?_⟩) hH1 ?_
    rotate_left
    · intro w' hw'
      obtain ⟨⟨x0, x1, x2, x3, -, -, -, -, -, -, -⟩, ⟨y0, y1, y2, y3, -, -, -, -, -, -, -⟩, r0⟩ := hw'
      go_simp
      try with_reducible rfl
    try simp only [Act.put, List.setIfInBounds_toArray, List.set_cons_zero, List.set_cons_succ]
    refine wpAnyH_take (i := 15) (oi := { dst := some 54, op := Op.move (Operand.tmp 8), type := 27, pos := "law.go:49", after := #[{ on := 12, ground := Ground.guard }], guard := some (12, false) }) (v := ?_) rfl (by kernel_rfl) (by kernel_rfl) (by kernel_rfl) (fun _ _ _ h => h) (Or.inl ⟨by rfl, ?_⟩) hH1 ?_
    rotate_left
    · intro w' hw'
      obtain ⟨⟨x0, x1, x2, x3, -, -, -, -, -, -, -⟩, ⟨y0, y1, y2, y3, -, -, -, -, -, -, -⟩, r0⟩ := hw'
      go_simp
      try with_reducible rfl
    try simp only [Act.put, List.setIfInBounds_toArray, List.set_cons_zero, List.set_cons_succ]
    refine wpAnyH_ready (rs := [14]) (by kernel_rfl) (by simp) ?_
    refine AllReadyH.cons (o := { dst := some 53, op := Op.call { callee := Callee.value (Operand.func 16), args := #[Operand.tmp 52], argTypes := #[25] }, type := 41, pos := "law.go:49", after := #[{ on := 13, ground := Ground.data }, { on := 12, ground := Ground.chain }, { on := 12, ground := Ground.guard }], guard := some (12, false) }) rfl (fun K hK => ?_) AllReadyH.nil
    go_simp
    refine (bytesWr E8.out.wr (by have := hrm.out; have := hl6.out; omega) lB hlB.out).mono ?_
    rintro e w9 ⟨a9, n9, c9, rfl, H9, b9, -⟩
    have E9 := hide (E8.out.below b9)
    have X9 := hide (X8.out.below b9)
    have Y9 := hide (Y8.out.below b9)
    clear E8 X8 Y8
    refine hK.out _ _ ⟨X9.out.st4, Y9.out.st4, E9.out.rw.c0⟩ (fun hH2 => ?_)
    clear hK
    try simp only [Act.put, List.setIfInBounds_toArray, List.set_cons_zero, List.set_cons_succ]
    refine wpAnyH_ready (rs := [16]) (by kernel_rfl) (by simp) ?_
    refine AllReadyH.cons (o := { dst := some 55, op := Op.call { callee := Callee.value (Operand.func 17), args := #[Operand.tmp 54], argTypes := #[27] }, type := 41, pos := "law.go:49", after := #[{ on := 15, ground := Ground.data }, { on := 14, ground := Ground.chain }, { on := 12, ground := Ground.guard }], guard := some (12, false) }) rfl (fun K hK => ?_) AllReadyH.nil
    go_simp
    refine (rbytes_any E9.out.rw (by have := hrm.out; omega)).mono ?_
    rintro e w10 ⟨lR, hlR, a10, n10, c10, rfl, H10, b10, -⟩
    have H9' := hide (H9.kept b10 (Nat.le_refl _))
    have hll : Hid (lB = lR) := by show _ = _; rw [hl6.out] at hlR; exact hlB.out.same hlR
    have E10 := hide (E9.out.below b10)
    have X10 := hide (X9.out.below b10)
    have Y10 := hide (Y9.out.below b10)
    clear E9 X9 Y9
    refine hK.out _ _ ⟨X10.out.st4, Y10.out.st4, E10.out.rw.c0⟩ (fun hH3 => ?_)
    clear hK
    try simp only [Act.put, List.setIfInBounds_toArray, List.set_cons_zero, List.set_cons_succ]
    refine wpAnyH_ready (rs := [17]) (by kernel_rfl) (by simp) ?_
    refine AllReadyH.cons (o := { dst := some 56, op := Op.call { callee := Callee.value (Operand.func 15), args := #[Operand.tmp 53, Operand.tmp 55], argTypes := #[41, 41] }, type := 4, pos := "law.go:49", after := #[{ on := 14, ground := Ground.data }, { on := 16, ground := Ground.data }, { on := 16, ground := Ground.chain }, { on := 12, ground := Ground.guard }], guard := some (12, false) }) rfl (fun K hK => ?_) AllReadyH.nil
    go_simp
    refine (same_yes _ _ _ _ _ _ _ _ _ H9'.out H10 hll.out).mono ?_
    rintro e wq ⟨rfl, hwq⟩
    rw [hwq]
    refine hK.out _ _ ⟨X10.out.st4, Y10.out.st4, E10.out.rw.c0⟩ (fun hH4 => ?_)
    clear hK
    try simp only [Act.put, List.setIfInBounds_toArray, List.set_cons_zero, List.set_cons_succ]
    refine wpAnyH_take (i := 18) (oi := { dst := some 57, op := Op.move (Operand.tmp 56), type := 4, pos := "law.go:49", after := #[{ on := 17, ground := Ground.data }, { on := 17, ground := Ground.chain }, { on := 12, ground := Ground.guard }], guard := some (12, false) }) (v := ?_) rfl (by kernel_rfl) (by kernel_rfl) (by kernel_rfl) (fun _ _ _ h => h) (Or.inl ⟨by rfl, ?_⟩) hH4 ?_
    rotate_left
    · intro w' hw'
      obtain ⟨⟨x0, x1, x2, x3, -, -, -, -, -, -, -⟩, ⟨y0, y1, y2, y3, -, -, -, -, -, -, -⟩, r0⟩ := hw'
      go_simp
      try with_reducible rfl
    try simp only [Act.put, List.setIfInBounds_toArray, List.set_cons_zero, List.set_cons_succ]
    refine wpAnyH_take (i := 19) (oi := { dst := some 58, op := Op.move (Operand.tmp 7), type := 25, pos := "law.go:49", after := #[{ on := 18, ground := Ground.guard }], guard := some (18, true) }) (v := ?_) rfl (by kernel_rfl) (by kernel_rfl) (by kernel_rfl) (fun _ _ _ h => h) (Or.inl ⟨by rfl, ?_⟩) hH4 ?_
    rotate_left
    · intro w' hw'
      obtain ⟨⟨x0, x1, x2, x3, -, -, -, -, -, -, -⟩, ⟨y0, y1, y2, y3, -, -, -, -, -, -, -⟩, r0⟩ := hw'
      go_simp
      try with_reducible rfl
    try simp only [Act.put, List.setIfInBounds_toArray, List.set_cons_zero, List.set_cons_succ]
    refine wpAnyH_take (i := 21) (oi := { dst := some 60, op := Op.move (Operand.tmp 8), type := 27, pos := "law.go:49", after := #[{ on := 18, ground := Ground.guard }], guard := some (18, true) }) (v := ?_) rfl (by kernel_rfl) (by kernel_rfl) (by kernel_rfl) (fun _ _ _ h => h) (Or.inl ⟨by rfl, ?_⟩) hH4 ?_
    rotate_left
    · intro w' hw'
      obtain ⟨⟨x0, x1, x2, x3, -, -, -, -, -, -, -⟩, ⟨y0, y1, y2, y3, -, -, -, -, -, -, -⟩, r0⟩ := hw'
      go_simp
      try with_reducible rfl
    try simp only [Act.put, List.setIfInBounds_toArray, List.set_cons_zero, List.set_cons_succ]
    refine wpAnyH_take (i := 22) (oi := { dst := some 61, op := Op.nilCheck (Operand.tmp 60), type := 0, pos := "law.go:49", after := #[{ on := 21, ground := Ground.data }, { on := 18, ground := Ground.guard }], guard := some (18, true) }) (v := ?_) rfl (by kernel_rfl) (by kernel_rfl) (by kernel_rfl) (fun _ _ _ h => h) (Or.inl ⟨by rfl, ?_⟩) hH4 ?_
    rotate_left
    · intro w' hw'
      obtain ⟨⟨x0, x1, x2, x3, -, -, -, -, -, -, -⟩, ⟨y0, y1, y2, y3, -, -, -, -, -, -, -⟩, r0⟩ := hw'
      go_simp
      try with_reducible rfl
    try simp only [Act.put, List.setIfInBounds_toArray, List.set_cons_zero, List.set_cons_succ]
    refine wpAnyH_take (i := 23) (oi := { dst := some 62, op := Op.fieldAddr 30 (Operand.tmp 61) 0, type := 0, pos := "law.go:49", after := #[{ on := 22, ground := Ground.data }, { on := 18, ground := Ground.guard }], guard := some (18, true) }) (v := ?_) rfl (by kernel_rfl) (by kernel_rfl) (by kernel_rfl) (fun _ _ _ h => h) (Or.inl ⟨by rfl, ?_⟩) hH4 ?_
    rotate_left
    · intro w' hw'
      obtain ⟨⟨x0, x1, x2, x3, -, -, -, -, -, -, -⟩, ⟨y0, y1, y2, y3, -, -, -, -, -, -, -⟩, r0⟩ := hw'
      go_simp
      try with_reducible rfl
    try simp only [Act.put, List.setIfInBounds_toArray, List.set_cons_zero, List.set_cons_succ]
    refine wpAnyH_take (i := 24) (oi := { dst := some 63, op := Op.load 28 (Operand.tmp 62), type := 28, pos := "law.go:49", after := #[{ on := 23, ground := Ground.data }, { on := 18, ground := Ground.guard }], guard := some (18, true) }) (v := ?_) rfl (by kernel_rfl) (by kernel_rfl) (by kernel_rfl) (fun _ _ _ h => h) (Or.inl ⟨by rfl, ?_⟩) hH4 ?_
    rotate_left
    · intro w' hw'
      obtain ⟨⟨x0, x1, x2, x3, -, -, -, -, -, -, -⟩, ⟨y0, y1, y2, y3, -, -, -, -, -, -, -⟩, r0⟩ := hw'
      go_simp
      try with_reducible rfl
    try simp only [Act.put, List.setIfInBounds_toArray, List.set_cons_zero, List.set_cons_succ]
    refine wpAnyH_take (i := 25) (oi := { dst := some 64, op := Op.call { callee := Callee.builtin Builtin.len, args := #[Operand.tmp 63], argTypes := #[28] }, type := 3, pos := "law.go:49", after := #[{ on := 24, ground := Ground.data }, { on := 18, ground := Ground.guard }], guard := some (18, true) }) (v := ?_) rfl (by kernel_rfl) (by kernel_rfl) (by kernel_rfl) (fun _ _ _ h => h) (Or.inl ⟨by rfl, ?_⟩) hH4 ?_
    rotate_left
    · intro w' hw'
      obtain ⟨⟨x0, x1, x2, x3, -, -, -, -, -, -, -⟩, ⟨y0, y1, y2, y3, -, -, -, -, -, -, -⟩, r0⟩ := hw'
      go_simp
      try with_reducible rfl
    try simp only [Act.put, List.setIfInBounds_toArray, List.set_cons_zero, List.set_cons_succ]
    refine wpAnyH_ready (rs := [20]) (by kernel_rfl) (by simp) ?_
    refine AllReadyH.cons (o := { dst := some 59, op := Op.call { callee := Callee.value (Operand.func 18), args := #[Operand.tmp 58], argTypes := #[25] }, type := 3, pos := "law.go:49", after := #[{ on := 19, ground := Ground.data }, { on := 18, ground := Ground.chain }, { on := 18, ground := Ground.guard }], guard := some (18, true) }) rfl (fun K hK => ?_) AllReadyH.nil
    go_simp
    refine (lenWr E10.out.wr).mono ?_
    rintro e wq2 ⟨rfl, hwq2⟩
    rw [hwq2]
    refine hK.out _ _ ⟨X10.out.st4, Y10.out.st4, E10.out.rw.c0⟩ (fun hH5 => ?_)
    clear hK
    try simp only [Act.put, List.setIfInBounds_toArray, List.set_cons_zero, List.set_cons_succ]
    refine wpAnyH_take (i := 26) (oi := { dst := some 65, op := Op.binOp BinOp.eql 3 (Operand.tmp 59) (Operand.tmp 64) 3, type := 4, pos := "law.go:49", after := #[{ on := 20, ground := Ground.data }, { on := 25, ground := Ground.data }, { on := 18, ground := Ground.guard }], guard := some (18, true) }) (v := ?_) rfl (by kernel_rfl) (by kernel_rfl) (by kernel_rfl) (fun _ _ _ h => h) (Or.inl ⟨by rfl, ?_⟩) hH5 ?_
    rotate_left
    · intro w' hw'
      obtain ⟨⟨x0, x1, x2, x3, -, -, -, -, -, -, -⟩, ⟨y0, y1, y2, y3, -, -, -, -, -, -, -⟩, r0⟩ := hw'
      go_simp
      try with_reducible rfl
    try simp only [Act.put, List.setIfInBounds_toArray, List.set_cons_zero, List.set_cons_succ]
    refine wpAnyH_take (i := 27) (oi := { dst := some 66, op := Op.pick (Operand.tmp 57) (Operand.tmp 65) (Operand.const (Value.bool false)), type := 4, pos := "law.go:49", after := #[{ on := 18, ground := Ground.data }, { on := 26, ground := Ground.data }, { on := 12, ground := Ground.guard }], guard := some (12, false) }) (v := ?_) rfl (by kernel_rfl) (by kernel_rfl) (by kernel_rfl) (fun _ _ _ h => h) (Or.inl ⟨by rfl, ?_⟩) hH5 ?_
    rotate_left
    · intro w' hw'
      obtain ⟨⟨x0, x1, x2, x3, -, -, -, -, -, -, -⟩, ⟨y0, y1, y2, y3, -, -, -, -, -, -, -⟩, r0⟩ := hw'
      go_simp
      try with_reducible rfl
    try simp only [Act.put, List.setIfInBounds_toArray, List.set_cons_zero, List.set_cons_succ]
    refine wpAnyH_take (i := 28) (oi := { dst := some 67, op := Op.pick (Operand.tmp 51) (Operand.const (Value.bool true)) (Operand.tmp 66), type := 4, pos := "law.go:49", after := #[{ on := 12, ground := Ground.data }, { on := 27, ground := Ground.data }, { on := 9, ground := Ground.guard }], guard := some (9, true) }) (v := ?_) rfl (by kernel_rfl) (by kernel_rfl) (by kernel_rfl) (fun _ _ _ h => h) (Or.inl ⟨by rfl, ?_⟩) hH5 ?_
    rotate_left
    · intro w' hw'
      obtain ⟨⟨x0, x1, x2, x3, -, -, -, -, -, -, -⟩, ⟨y0, y1, y2, y3, -, -, -, -, -, -, -⟩, r0⟩ := hw'
      go_simp
      try with_reducible rfl
    try simp only [Act.put, List.setIfInBounds_toArray, List.set_cons_zero, List.set_cons_succ]
    refine wpAnyH_take (i := 29) (oi := { dst := some 68, op := Op.pick (Operand.tmp 48) (Operand.tmp 67) (Operand.const (Value.bool false)), type := 4, pos := "law.go:49", after := #[{ on := 9, ground := Ground.data }, { on := 28, ground := Ground.data }], guard := none }) (v := ?_) rfl (by kernel_rfl) (by kernel_rfl) (by kernel_rfl) (fun _ _ _ h => h) (Or.inl ⟨by rfl, ?_⟩) hH5 ?_
    rotate_left
    · intro w' hw'
      obtain ⟨⟨x0, x1, x2, x3, -, -, -, -, -, -, -⟩, ⟨y0, y1, y2, y3, -, -, -, -, -, -, -⟩, r0⟩ := hw'
      go_simp
      try with_reducible rfl
    try simp only [Act.put, List.setIfInBounds_toArray, List.set_cons_zero, List.set_cons_succ]
    refine wpAnyH_take (i := 30) (oi := { dst := some 69, op := Op.move (Operand.tmp 68), type := 4, pos := "law.go:49", after := #[{ on := 29, ground := Ground.data }, { on := 20, ground := Ground.chain }], guard := none }) (v := ?_) rfl (by kernel_rfl) (by kernel_rfl) (by kernel_rfl) (fun _ _ _ h => h) (Or.inl ⟨by rfl, ?_⟩) hH5 ?_
    rotate_left
    · intro w' hw'
      obtain ⟨⟨x0, x1, x2, x3, -, -, -, -, -, -, -⟩, ⟨y0, y1, y2, y3, -, -, -, -, -, -, -⟩, r0⟩ := hw'
      go_simp
      try with_reducible rfl
    try simp only [Act.put, List.setIfInBounds_toArray, List.set_cons_zero, List.set_cons_succ]
    refine wpAnyH_ready (rs := [31]) (by kernel_rfl) (by simp) ?_
    refine AllReadyH.cons (o := { dst := some 70, op := Op.call { callee := Callee.value (Operand.func 19), args := #[], argTypes := #[] }, type := 24, pos := "law.go:49", after := #[{ on := 30, ground := Ground.chain }, { on := 30, ground := Ground.guard }], guard := some (30, true) }) rfl (fun K hK => ?_) AllReadyH.nil
    go_simp
    refine (begin_any _).mono ?_
    rintro e w11 ⟨rfl, b11⟩
    have E11 := hide (E10.out.below b11)
    have X11 := hide (X10.out.below b11)
    have Y11 := hide (Y10.out.below b11)
    clear E10 X10 Y10
    refine hK.out _ _ ⟨X11.out.st4, Y11.out.st4, E11.out.rw.c0⟩ (fun hH6 => ?_)
    clear hK
    try simp only [Act.put, List.setIfInBounds_toArray, List.set_cons_zero, List.set_cons_succ]
    refine wpAnyH_ready (rs := [32]) (by kernel_rfl) (by simp) ?_
    refine AllReadyH.cons (o := { dst := some 71, op := Op.call { callee := Callee.value (Operand.func 14), args := #[Operand.tmp 70], argTypes := #[24] }, type := 36, pos := "law.go:49", after := #[{ on := 31, ground := Ground.data }, { on := 31, ground := Ground.chain }, { on := 30, ground := Ground.guard }], guard := some (30, true) }) rfl (fun K hK => ?_) AllReadyH.nil
    go_simp
    refine (plain_any _ _ _ _ _).mono ?_
    rintro e w12 ⟨rfl, b12⟩
    have E12 := hide (E11.out.below b12)
    have X12 := hide (X11.out.below b12)
    have Y12 := hide (Y11.out.below b12)
    clear E11 X11 Y11
    refine hK.out _ _ ⟨X12.out.st4, Y12.out.st4, E12.out.rw.c0⟩ (fun hH7 => ?_)
    clear hK
    try simp only [Act.put, List.setIfInBounds_toArray, List.set_cons_zero, List.set_cons_succ]
    refine wpAnyH_ready (rs := [33]) (by kernel_rfl) (by simp) ?_
    refine AllReadyH.cons (o := { dst := some 72, op := Op.call { callee := Callee.value (Operand.func 20), args := #[], argTypes := #[] }, type := 36, pos := "law.go:49", after := #[{ on := 32, ground := Ground.chain }, { on := 30, ground := Ground.guard }], guard := some (30, true) }) rfl (fun K hK => ?_) AllReadyH.nil
    go_simp
    refine (rbegin_any _).mono ?_
    rintro e w13 ⟨rfl, b13⟩
    have E13 := hide (E12.out.below b13)
    have X13 := hide (X12.out.below b13)
    have Y13 := hide (Y12.out.below b13)
    clear E12 X12 Y12
    refine hK.out _ _ ⟨X13.out.st4, Y13.out.st4, E13.out.rw.c0⟩ (fun hH8 => ?_)
    clear hK
    try simp only [Act.put, List.setIfInBounds_toArray, List.set_cons_zero, List.set_cons_succ]
    refine wpAnyH_take (i := 34) (oi := { dst := some 73, op := Op.binOp BinOp.eql 36 (Operand.tmp 71) (Operand.tmp 72) 36, type := 4, pos := "law.go:49", after := #[{ on := 32, ground := Ground.data }, { on := 33, ground := Ground.data }, { on := 30, ground := Ground.guard }], guard := some (30, true) }) (v := ?_) rfl (by kernel_rfl) (by kernel_rfl) (by kernel_rfl) (fun _ _ _ h => h) (Or.inl ⟨by rfl, ?_⟩) hH8 ?_
    rotate_left
    · intro w' hw'
      obtain ⟨⟨x0, x1, x2, x3, -, -, -, -, -, -, -⟩, ⟨y0, y1, y2, y3, -, -, -, -, -, -, -⟩, r0⟩ := hw'
      go_simp
      try with_reducible rfl
    try simp only [Act.put, List.setIfInBounds_toArray, List.set_cons_zero, List.set_cons_succ]
    refine wpAnyH_take (i := 35) (oi := { dst := some 74, op := Op.pick (Operand.tmp 69) (Operand.tmp 73) (Operand.const (Value.bool false)), type := 4, pos := "law.go:49", after := #[{ on := 30, ground := Ground.data }, { on := 34, ground := Ground.data }], guard := none }) (v := ?_) rfl (by kernel_rfl) (by kernel_rfl) (by kernel_rfl) (fun _ _ _ h => h) (Or.inl ⟨by rfl, ?_⟩) hH8 ?_
    rotate_left
    · intro w' hw'
      obtain ⟨⟨x0, x1, x2, x3, -, -, -, -, -, -, -⟩, ⟨y0, y1, y2, y3, -, -, -, -, -, -, -⟩, r0⟩ := hw'
      go_simp
      try with_reducible rfl
    try simp only [Act.put, List.setIfInBounds_toArray, List.set_cons_zero, List.set_cons_succ]
    refine wpAnyH_take (i := 36) (oi := { dst := some 75, op := Op.move (Operand.tmp 74), type := 4, pos := "law.go:49", after := #[{ on := 35, ground := Ground.data }, { on := 33, ground := Ground.chain }], guard := none }) (v := ?_) rfl (by kernel_rfl) (by kernel_rfl) (by kernel_rfl) (fun _ _ _ h => h) (Or.inl ⟨by rfl, ?_⟩) hH8 ?_
    rotate_left
    · intro w' hw'
      obtain ⟨⟨x0, x1, x2, x3, -, -, -, -, -, -, -⟩, ⟨y0, y1, y2, y3, -, -, -, -, -, -, -⟩, r0⟩ := hw'
      go_simp
      try with_reducible rfl
    try simp only [Act.put, List.setIfInBounds_toArray, List.set_cons_zero, List.set_cons_succ]
    refine wpAnyH_ready (rs := [37]) (by kernel_rfl) (by simp) ?_
    refine AllReadyH.cons (o := { dst := some 76, op := Op.call { callee := Callee.value (Operand.func 21), args := #[], argTypes := #[] }, type := 4, pos := "law.go:49", after := #[{ on := 36, ground := Ground.chain }, { on := 36, ground := Ground.guard }], guard := some (36, true) }) rfl (fun K hK => ?_) AllReadyH.nil
    go_simp
    refine (works_any _ E13.out.t).mono ?_
    rintro e w14 ⟨rfl, b14⟩
    have E14 := hide (E13.out.below b14)
    have X14 := hide (X13.out.below b14)
    have Y14 := hide (Y13.out.below b14)
    clear E13 X13 Y13
    refine hK.out _ _ ⟨X14.out.st4, Y14.out.st4, E14.out.rw.c0⟩ (fun hH9 => ?_)
    clear hK
    try simp only [Act.put, List.setIfInBounds_toArray, List.set_cons_zero, List.set_cons_succ]
    refine wpAnyH_take (i := 38) (oi := { dst := some 77, op := Op.pick (Operand.tmp 75) (Operand.tmp 76) (Operand.const (Value.bool false)), type := 4, pos := "law.go:49", after := #[{ on := 36, ground := Ground.data }, { on := 37, ground := Ground.data }], guard := none }) (v := ?_) rfl (by kernel_rfl) (by kernel_rfl) (by kernel_rfl) (fun _ _ _ h => h) (Or.inl ⟨by rfl, ?_⟩) hH9 ?_
    rotate_left
    · intro w' hw'
      obtain ⟨⟨x0, x1, x2, x3, -, -, -, -, -, -, -⟩, ⟨y0, y1, y2, y3, -, -, -, -, -, -, -⟩, r0⟩ := hw'
      go_simp
      try with_reducible rfl
    try simp only [Act.put, List.setIfInBounds_toArray, List.set_cons_zero, List.set_cons_succ]
    refine wpAnyH_take (i := 39) (oi := { dst := some 6, op := Op.assign (Operand.tmp 77), type := 4, pos := "law.go:49", after := #[{ on := 38, ground := Ground.data }, { on := 37, ground := Ground.chain }, { on := 0, ground := Ground.phase }, { on := 1, ground := Ground.phase }, { on := 2, ground := Ground.phase }, { on := 3, ground := Ground.phase }, { on := 4, ground := Ground.phase }, { on := 5, ground := Ground.phase }, { on := 6, ground := Ground.phase }, { on := 7, ground := Ground.phase }, { on := 8, ground := Ground.phase }, { on := 9, ground := Ground.phase }, { on := 10, ground := Ground.phase }, { on := 11, ground := Ground.phase }, { on := 12, ground := Ground.phase }, { on := 13, ground := Ground.phase }, { on := 14, ground := Ground.phase }, { on := 15, ground := Ground.phase }, { on := 16, ground := Ground.phase }, { on := 17, ground := Ground.phase }, { on := 18, ground := Ground.phase }, { on := 19, ground := Ground.phase }, { on := 20, ground := Ground.phase }, { on := 21, ground := Ground.phase }, { on := 22, ground := Ground.phase }, { on := 23, ground := Ground.phase }, { on := 24, ground := Ground.phase }, { on := 25, ground := Ground.phase }, { on := 26, ground := Ground.phase }, { on := 27, ground := Ground.phase }, { on := 28, ground := Ground.phase }, { on := 29, ground := Ground.phase }, { on := 30, ground := Ground.phase }, { on := 31, ground := Ground.phase }, { on := 32, ground := Ground.phase }, { on := 33, ground := Ground.phase }, { on := 34, ground := Ground.phase }, { on := 35, ground := Ground.phase }, { on := 36, ground := Ground.phase }, { on := 37, ground := Ground.phase }, { on := 38, ground := Ground.phase }], guard := none }) (v := ?_) rfl (by kernel_rfl) (by kernel_rfl) (by kernel_rfl) (fun _ _ _ h => h) (Or.inl ⟨by rfl, ?_⟩) hH9 ?_
    rotate_left
    · intro w' hw'
      obtain ⟨⟨x0, x1, x2, x3, -, -, -, -, -, -, -⟩, ⟨y0, y1, y2, y3, -, -, -, -, -, -, -⟩, r0⟩ := hw'
      go_simp
      try with_reducible rfl
    try simp only [Act.put, List.setIfInBounds_toArray, List.set_cons_zero, List.set_cons_succ]
    refine wpAnyH_done (by kernel_rfl) ?_ _
    refine NoPanic.normal ?_
    go_wp2_with fail
    go_ret
    exact ⟨rfl, E14.out.bel⟩
end Go.Proofs.YtmddkinecplooaaDoor
