/-
  The walk of StampPuts.
-/
import Derived.Test.YtpopkoedeckfoaaDoorSM
import Derived.Deep.Cut
import Derived.Deep.RegionHeld3
namespace Go.Proofs.YtpopkoedeckfoaaDoor
open Go.RowKit
set_option linter.unusedVariables false
set_option linter.unusedSimpArgs false

set_option maxHeartbeats 2000000 in
theorem puts_walk (n l d t k0 : Int) (w : World) (ht : Tab w) (wn : (Lit.int .i64 n).wf = true) (wl : (Lit.int .i64 l).wf = true) (wd : (Lit.int .i64 d).wf = true) (wt : (Lit.int .i64 t).wf = true) (wk : (Lit.int .i64 k0).wf = true) :
    Calls Tryd.prog 3 #[.agg #[.int .i64 n, .int .i64 l, .int .i64 d], .int .i64 t, .int .i64 k0] w fun e w' => e = .returned (.bool true) ∧ Below w.heap.size w w' := by
  have hz29 : (Tryd.prog.info? 29).map (·.zero) = some (some (.agg #[.slice none 0 0])) := by kernel_rfl
  obtain ⟨k, gk, G⟩ := among_ex k0 20 20 (by omega) wk (by omega) (by omega)
  replace G := hide G
  have hpos := hide ht.pos
  replace ht := hide ht
  have B0 : Hid (Below w.heap.size w (w.alloc (.cells #[.int .i64 n, .int .i64 l, .int .i64 d] 23))) := (Below.refl _ w).alloc (Nat.le_refl _) _
  have S0 := hide (Box3.new w (.int .i64 n) (.int .i64 l) (.int .i64 d) 23)
  have N := hide (newWr _ w.heap.size B0.out.size)
  go_enter Tryd.func3, Tryd.ntmps3
  go_wp2_with fail
  refine N.out.mono ?_
  rintro e w1 ⟨p, rfl, b1, W1, hn1⟩
  have b1' := hide (B0.out.trans (b1.mono B0.out.size))
  have S1 := hide ((S0.out.kept b1 S0.out.lt).kept ((Below.refl w1.heap.size w1).alloc (Nat.le_refl _) (.cells #[.slice none 0 0] 29)) (Nat.lt_of_lt_of_le S0.out.lt b1.size))
  have E1 := hide (TW.start W1 (ht.out.kept b1'.out hpos.out) b1'.out hpos.out)
  have f1 : Hid (¬ fp p (.slice none 0 0) w.heap.size) := fun h => by have := hn1 _ h; have := S0.out.lt; omega
  have f2 : Hid (¬ fp w1.heap.size (.slice none 0 0) w.heap.size) := fun h => by
    rcases h with h | h
    · have := S0.out.lt; have := b1.size; omega
    · cases h
  clear N W1 hn1 b1 S0 B0 wn wl wd wt wk
  have P1 := hide (putWr E1.out.wr 0 k (by decide) (by omega) (by omega))
  go_wp2_with fail
  refine (G.out _).mono ?_
  rintro e wq ⟨rfl, rfl⟩
  go_wp2_with fail
  refine P1.out.mono ?_
  rintro e w2 ⟨rfl, v2, W2, D2⟩
  have E2 := hide (E1.out.put1 D2 W2)
  have S2 := hide (S1.out.did D2 f1.out)
  have f1' := hide (D2.not S1.out.lt f1.out)
  clear P1 W2 D2 S1 f1 E1 G
  have P2 := hide (putRW E2.out.rw 0 k (xi := 0) (ni := (k : Int)) rfl rfl (by decide) (by omega) (by simp; omega))
  go_wp2_with fail
  refine P2.out.mono ?_
  rintro e w3 ⟨rfl, u3, M3, W3, n3, l3, D3⟩
  have hM : Hid (numB M3 = 0 ∧ M3.length = k) := ⟨by rw [n3]; simp [numB], by rw [l3]; simp⟩
  have E3 : Hid (TW w w3 w.heap.size p v2 (numB M3) M3.length w1.heap.size u3 M3) := by
    have := E2.out.put2 D3 W3
    rw [hM.out.1, hM.out.2]
    simp only [Nat.zero_mul, Nat.zero_mod, Nat.add_zero, Nat.zero_add] at this
    exact this
  have S3 := hide (S2.out.did D3 f2.out)
  have f2' := hide (D3.not S2.out.lt f2.out)
  clear P2 W3 D3 n3 l3 E2 S2 f2
  have hlen : M3.length < 20 := by have := hM.out.2; omega
  have s0 := S3.out.c0
  have s1 := S3.out.c1
  have s2 := S3.out.c2
  generalize w1.heap.size = r at *
  cases hok : okSI n l d && okTI n l t
  · have P3 := hide (putS_no E3.out.wr E3.out.t hpos.out n l d t hok (by omega))
    go_wp2_with fail
    refine P3.out.mono ?_
    rintro e w4 ⟨rfl, v4, W4, D4⟩
    have E4 := hide ((E3.out.put1 D4 W4).below ((Below.refl _ w4).alloc (Nat.le_refl _) (.cells #[.int .i64 0, .int .i64 0, .int .i64 0] 23)))
    have S4 := hide ((S3.out.did D4 f1'.out).kept ((Below.refl _ w4).alloc (Nat.le_refl _) (.cells #[.int .i64 0, .int .i64 0, .int .i64 0] 23)) (Nat.lt_of_lt_of_le S3.out.lt D4.bel.size))
    have X4 := hide (Box3.new w4 (.int .i64 0) (.int .i64 0) (.int .i64 0) 23)
    have P4 := hide (rputS_no E4.out.rw n l d t hok)
    have f9 := E3.out.rw.not D4.bel.size
    clear P3 W4 D4 E3 S3 s0 s1 s2
    have s0 := S4.out.c0
    have s1 := S4.out.c1
    have s2 := S4.out.c2
    go_wp2_with fail
    refine P4.out.mono ?_
    rintro e w5 ⟨rfl, u5, W5, D5⟩
    have X5 := hide ((X4.out.did D5 f9).kept ((Below.refl _ w5).alloc (Nat.le_refl _) (.cells #[.int .i64 0, .int .i64 0, .int .i64 0] 36)) (Nat.lt_of_lt_of_le X4.out.lt D5.bel.size))
    have Y5 := hide (Box3.new w5 (.int .i64 0) (.int .i64 0) (.int .i64 0) 36)
    have E5 := hide ((E4.out.put2 D5 W5).below ((Below.refl _ w5).alloc (Nat.le_refl _) (.cells #[.int .i64 0, .int .i64 0, .int .i64 0] 36)))
    clear P4 W5 D5 E4 S4 s0 s1 s2 f9 X4
    go_upto_region 7 with fail
    have heq : ∀ w, (binOp .eql 36 (.agg #[.int .i64 0, .int .i64 0, .int .i64 0]) (.agg #[.int .i64 0, .int .i64 0, .int .i64 0])).run Tryd.prog w = .ok (.bool true) w := fun w => by rw [run_eql36]; rfl
    have c0 := X5.out.c0
    have c1 := X5.out.c1
    have c2 := X5.out.c2
    have d0 := Y5.out.c0
    have d1 := Y5.out.c1
    have d2 := Y5.out.c2
    generalize w4.heap.size = g9 at *
    generalize w5.alloc (.cells #[.int .i64 0, .int .i64 0, .int .i64 0] 36) = w6 at *
    generalize w5.heap.size = g11 at *
    have KW := hide (works_any _ E5.out.drew.t)
    refine wp_region_noPanic ?_
    refine wp_region_held_drew (S := fun w' => Box3 w' g9 (.int .i64 0) (.int .i64 0) (.int .i64 0) ∧ Box3 w' g11 (.int .i64 0) (.int .i64 0) (.int .i64 0)) (by kernel_rfl) ⟨X5.out.drew, Y5.out.drew⟩ (fun hH0 => ?_)
    refine wpAnyH_take (i := 0) (oi := { dst := some 44, op := Op.fieldAddr 23 (Operand.tmp 9) 0, type := 0, pos := "law.go:32", after := #[], guard := none }) (v := ?_) rfl (by kernel_rfl) (by kernel_rfl) (by kernel_rfl) (fun _ _ _ h => h) (Or.inl ⟨by rfl, ?_⟩) hH0 ?_
    rotate_left
    · intro w' hw'
      obtain ⟨⟨s0, s1, s2, -, -, -, -⟩, ⟨t0, t1, t2, -, -, -, -⟩⟩ := hw'
      go_simp
      try with_reducible rfl
    try simp only [Act.put, List.setIfInBounds_toArray, List.set_cons_zero, List.set_cons_succ]
    refine wpAnyH_take (i := 1) (oi := { dst := some 45, op := Op.load 3 (Operand.tmp 44), type := 3, pos := "law.go:32", after := #[{ on := 0, ground := Ground.data }], guard := none }) (v := ?_) rfl (by kernel_rfl) (by kernel_rfl) (by kernel_rfl) (fun _ _ _ h => h) (Or.inl ⟨by rfl, ?_⟩) hH0 ?_
    rotate_left
    · intro w' hw'
      obtain ⟨⟨s0, s1, s2, -, -, -, -⟩, ⟨t0, t1, t2, -, -, -, -⟩⟩ := hw'
      go_simp
      try with_reducible rfl
    try simp only [Act.put, List.setIfInBounds_toArray, List.set_cons_zero, List.set_cons_succ]
    refine wpAnyH_take (i := 2) (oi := { dst := some 46, op := Op.fieldAddr 23 (Operand.tmp 9) 1, type := 0, pos := "law.go:32", after := #[], guard := none }) (v := ?_) rfl (by kernel_rfl) (by kernel_rfl) (by kernel_rfl) (fun _ _ _ h => h) (Or.inl ⟨by rfl, ?_⟩) hH0 ?_
    rotate_left
    · intro w' hw'
      obtain ⟨⟨s0, s1, s2, -, -, -, -⟩, ⟨t0, t1, t2, -, -, -, -⟩⟩ := hw'
      go_simp
      try with_reducible rfl
    try simp only [Act.put, List.setIfInBounds_toArray, List.set_cons_zero, List.set_cons_succ]
    refine wpAnyH_take (i := 3) (oi := { dst := some 47, op := Op.load 3 (Operand.tmp 46), type := 3, pos := "law.go:32", after := #[{ on := 2, ground := Ground.data }], guard := none }) (v := ?_) rfl (by kernel_rfl) (by kernel_rfl) (by kernel_rfl) (fun _ _ _ h => h) (Or.inl ⟨by rfl, ?_⟩) hH0 ?_
    rotate_left
    · intro w' hw'
      obtain ⟨⟨s0, s1, s2, -, -, -, -⟩, ⟨t0, t1, t2, -, -, -, -⟩⟩ := hw'
      go_simp
      try with_reducible rfl
    try simp only [Act.put, List.setIfInBounds_toArray, List.set_cons_zero, List.set_cons_succ]
    refine wpAnyH_take (i := 4) (oi := { dst := some 48, op := Op.fieldAddr 23 (Operand.tmp 9) 2, type := 0, pos := "law.go:32", after := #[], guard := none }) (v := ?_) rfl (by kernel_rfl) (by kernel_rfl) (by kernel_rfl) (fun _ _ _ h => h) (Or.inl ⟨by rfl, ?_⟩) hH0 ?_
    rotate_left
    · intro w' hw'
      obtain ⟨⟨s0, s1, s2, -, -, -, -⟩, ⟨t0, t1, t2, -, -, -, -⟩⟩ := hw'
      go_simp
      try with_reducible rfl
    try simp only [Act.put, List.setIfInBounds_toArray, List.set_cons_zero, List.set_cons_succ]
    refine wpAnyH_take (i := 5) (oi := { dst := some 49, op := Op.load 3 (Operand.tmp 48), type := 3, pos := "law.go:32", after := #[{ on := 4, ground := Ground.data }], guard := none }) (v := ?_) rfl (by kernel_rfl) (by kernel_rfl) (by kernel_rfl) (fun _ _ _ h => h) (Or.inl ⟨by rfl, ?_⟩) hH0 ?_
    rotate_left
    · intro w' hw'
      obtain ⟨⟨s0, s1, s2, -, -, -, -⟩, ⟨t0, t1, t2, -, -, -, -⟩⟩ := hw'
      go_simp
      try with_reducible rfl
    try simp only [Act.put, List.setIfInBounds_toArray, List.set_cons_zero, List.set_cons_succ]
    refine wpAnyH_take (i := 6) (oi := { dst := some 50, op := Op.build 36 #[(0, Operand.tmp 45), (1, Operand.tmp 47), (2, Operand.tmp 49)], type := 36, pos := "law.go:32", after := #[{ on := 1, ground := Ground.data }, { on := 3, ground := Ground.data }, { on := 5, ground := Ground.data }], guard := none }) (v := ?_) rfl (by kernel_rfl) (by kernel_rfl) (by kernel_rfl) (fun _ _ _ h => h) (Or.inl ⟨by rfl, ?_⟩) hH0 ?_
    rotate_left
    · intro w' hw'
      obtain ⟨⟨s0, s1, s2, -, -, -, -⟩, ⟨t0, t1, t2, -, -, -, -⟩⟩ := hw'
      go_simp
      try with_reducible rfl
    try simp only [Act.put, List.setIfInBounds_toArray, List.set_cons_zero, List.set_cons_succ]
    refine wpAnyH_take (i := 7) (oi := { dst := some 51, op := Op.load 36 (Operand.tmp 11), type := 36, pos := "law.go:32", after := #[], guard := none }) (v := ?_) rfl (by kernel_rfl) (by kernel_rfl) (by kernel_rfl) (fun _ _ _ h => h) (Or.inl ⟨by rfl, ?_⟩) hH0 ?_
    rotate_left
    · intro w' hw'
      obtain ⟨⟨s0, s1, s2, -, -, -, -⟩, ⟨t0, t1, t2, -, -, -, -⟩⟩ := hw'
      go_simp
      try with_reducible rfl
    try simp only [Act.put, List.setIfInBounds_toArray, List.set_cons_zero, List.set_cons_succ]
    refine wpAnyH_take (i := 8) (oi := { dst := some 52, op := Op.binOp BinOp.eql 36 (Operand.tmp 50) (Operand.tmp 51) 36, type := 4, pos := "law.go:32", after := #[{ on := 6, ground := Ground.data }, { on := 7, ground := Ground.data }], guard := none }) (v := ?_) rfl (by kernel_rfl) (by kernel_rfl) (by kernel_rfl) (fun _ _ _ h => h) (Or.inl ⟨by rfl, ?_⟩) hH0 ?_
    rotate_left
    · intro w' hw'
      obtain ⟨⟨s0, s1, s2, -, -, -, -⟩, ⟨t0, t1, t2, -, -, -, -⟩⟩ := hw'
      go_simp
      try with_reducible rfl
    try simp only [Act.put, List.setIfInBounds_toArray, List.set_cons_zero, List.set_cons_succ]
    refine wpAnyH_take (i := 9) (oi := { dst := some 53, op := Op.move (Operand.tmp 52), type := 4, pos := "law.go:32", after := #[{ on := 8, ground := Ground.data }], guard := none }) (v := ?_) rfl (by kernel_rfl) (by kernel_rfl) (by kernel_rfl) (fun _ _ _ h => h) (Or.inl ⟨by rfl, ?_⟩) hH0 ?_
    rotate_left
    · intro w' hw'
      obtain ⟨⟨s0, s1, s2, -, -, -, -⟩, ⟨t0, t1, t2, -, -, -, -⟩⟩ := hw'
      go_simp
      try with_reducible rfl
    try simp only [Act.put, List.setIfInBounds_toArray, List.set_cons_zero, List.set_cons_succ]
    refine wpAnyH_take (i := 10) (oi := { dst := some 54, op := Op.move (Operand.tmp 10), type := 31, pos := "law.go:32", after := #[{ on := 9, ground := Ground.guard }], guard := some (9, true) }) (v := ?_) rfl (by kernel_rfl) (by kernel_rfl) (by kernel_rfl) (fun _ _ _ h => h) (Or.inl ⟨by rfl, ?_⟩) hH0 ?_
    rotate_left
    · intro w' hw'
      obtain ⟨⟨s0, s1, s2, -, -, -, -⟩, ⟨t0, t1, t2, -, -, -, -⟩⟩ := hw'
      go_simp
      try with_reducible rfl
    try simp only [Act.put, List.setIfInBounds_toArray, List.set_cons_zero, List.set_cons_succ]
    refine wpAnyH_take (i := 11) (oi := { dst := some 55, op := Op.move (Operand.tmp 12), type := 31, pos := "law.go:32", after := #[{ on := 9, ground := Ground.guard }], guard := some (9, true) }) (v := ?_) rfl (by kernel_rfl) (by kernel_rfl) (by kernel_rfl) (fun _ _ _ h => h) (Or.inl ⟨by rfl, ?_⟩) hH0 ?_
    rotate_left
    · intro w' hw'
      obtain ⟨⟨s0, s1, s2, -, -, -, -⟩, ⟨t0, t1, t2, -, -, -, -⟩⟩ := hw'
      go_simp
      try with_reducible rfl
    try simp only [Act.put, List.setIfInBounds_toArray, List.set_cons_zero, List.set_cons_succ]
    refine wpAnyH_take (i := 12) (oi := { dst := some 56, op := Op.binOp BinOp.eql 31 (Operand.tmp 54) (Operand.tmp 55) 31, type := 4, pos := "law.go:32", after := #[{ on := 10, ground := Ground.data }, { on := 11, ground := Ground.data }, { on := 9, ground := Ground.guard }], guard := some (9, true) }) (v := ?_) rfl (by kernel_rfl) (by kernel_rfl) (by kernel_rfl) (fun _ _ _ h => h) (Or.inl ⟨by rfl, ?_⟩) hH0 ?_
    rotate_left
    · intro w' hw'
      obtain ⟨⟨s0, s1, s2, -, -, -, -⟩, ⟨t0, t1, t2, -, -, -, -⟩⟩ := hw'
      go_simp
      try with_reducible rfl
    try simp only [Act.put, List.setIfInBounds_toArray, List.set_cons_zero, List.set_cons_succ]
    refine wpAnyH_take (i := 13) (oi := { dst := some 57, op := Op.pick (Operand.tmp 53) (Operand.tmp 56) (Operand.const (Value.bool false)), type := 4, pos := "law.go:32", after := #[{ on := 9, ground := Ground.data }, { on := 12, ground := Ground.data }], guard := none }) (v := ?_) rfl (by kernel_rfl) (by kernel_rfl) (by kernel_rfl) (fun _ _ _ h => h) (Or.inl ⟨by rfl, ?_⟩) hH0 ?_
    rotate_left
    · intro w' hw'
      obtain ⟨⟨s0, s1, s2, -, -, -, -⟩, ⟨t0, t1, t2, -, -, -, -⟩⟩ := hw'
      go_simp
      try with_reducible rfl
    try simp only [Act.put, List.setIfInBounds_toArray, List.set_cons_zero, List.set_cons_succ]
    refine wpAnyH_take (i := 14) (oi := { dst := some 58, op := Op.move (Operand.tmp 57), type := 4, pos := "law.go:32", after := #[{ on := 13, ground := Ground.data }, { on := 9, ground := Ground.chain }], guard := none }) (v := ?_) rfl (by kernel_rfl) (by kernel_rfl) (by kernel_rfl) (fun _ _ _ h => h) (Or.inl ⟨by rfl, ?_⟩) hH0 ?_
    rotate_left
    · intro w' hw'
      obtain ⟨⟨s0, s1, s2, -, -, -, -⟩, ⟨t0, t1, t2, -, -, -, -⟩⟩ := hw'
      go_simp
      try with_reducible rfl
    try simp only [Act.put, List.setIfInBounds_toArray, List.set_cons_zero, List.set_cons_succ]
    refine wpAnyH_take (i := 15) (oi := { dst := some 59, op := Op.move (Operand.tmp 10), type := 31, pos := "law.go:32", after := #[{ on := 14, ground := Ground.guard }], guard := some (14, true) }) (v := ?_) rfl (by kernel_rfl) (by kernel_rfl) (by kernel_rfl) (fun _ _ _ h => h) (Or.inl ⟨by rfl, ?_⟩) hH0 ?_
    rotate_left
    · intro w' hw'
      obtain ⟨⟨s0, s1, s2, -, -, -, -⟩, ⟨t0, t1, t2, -, -, -, -⟩⟩ := hw'
      go_simp
      try with_reducible rfl
    try simp only [Act.put, List.setIfInBounds_toArray, List.set_cons_zero, List.set_cons_succ]
    refine wpAnyH_take (i := 16) (oi := { dst := some 60, op := Op.binOp BinOp.neq 31 (Operand.tmp 59) (Operand.const (Value.int IntKind.i64 0)) 31, type := 4, pos := "law.go:32", after := #[{ on := 15, ground := Ground.data }, { on := 14, ground := Ground.guard }], guard := some (14, true) }) (v := ?_) rfl (by kernel_rfl) (by kernel_rfl) (by kernel_rfl) (fun _ _ _ h => h) (Or.inl ⟨by rfl, ?_⟩) hH0 ?_
    rotate_left
    · intro w' hw'
      obtain ⟨⟨s0, s1, s2, -, -, -, -⟩, ⟨t0, t1, t2, -, -, -, -⟩⟩ := hw'
      go_simp
      try with_reducible rfl
    try simp only [Act.put, List.setIfInBounds_toArray, List.set_cons_zero, List.set_cons_succ]
    refine wpAnyH_take (i := 17) (oi := { dst := some 61, op := Op.move (Operand.tmp 60), type := 4, pos := "law.go:32", after := #[{ on := 16, ground := Ground.data }, { on := 14, ground := Ground.chain }, { on := 14, ground := Ground.guard }], guard := some (14, true) }) (v := ?_) rfl (by kernel_rfl) (by kernel_rfl) (by kernel_rfl) (fun _ _ _ h => h) (Or.inl ⟨by rfl, ?_⟩) hH0 ?_
    rotate_left
    · intro w' hw'
      obtain ⟨⟨s0, s1, s2, -, -, -, -⟩, ⟨t0, t1, t2, -, -, -, -⟩⟩ := hw'
      go_simp
      try with_reducible rfl
    try simp only [Act.put, List.setIfInBounds_toArray, List.set_cons_zero, List.set_cons_succ]
    refine wpAnyH_take (i := 18) (oi := { dst := some 62, op := Op.move (Operand.tmp 7), type := 24, pos := "law.go:32", after := #[{ on := 17, ground := Ground.guard }], guard := some (17, false) }) (v := undef) rfl (by kernel_rfl) (by kernel_rfl) (by kernel_rfl) (fun _ _ _ h => h) (Or.inr ⟨by rfl, rfl⟩) hH0 ?_
    try simp only [Act.put, List.setIfInBounds_toArray, List.set_cons_zero, List.set_cons_succ]
    refine wpAnyH_take (i := 19) (oi := { dst := some 63, op := Op.call { callee := Callee.value (Operand.func 16), args := #[Operand.tmp 62], argTypes := #[24] }, type := 40, pos := "law.go:32", after := #[{ on := 18, ground := Ground.data }, { on := 17, ground := Ground.chain }, { on := 17, ground := Ground.guard }], guard := some (17, false) }) (v := undef) rfl (by kernel_rfl) (by kernel_rfl) (by kernel_rfl) (fun _ _ _ h => h) (Or.inr ⟨by rfl, rfl⟩) hH0 ?_
    try simp only [Act.put, List.setIfInBounds_toArray, List.set_cons_zero, List.set_cons_succ]
    refine wpAnyH_take (i := 20) (oi := { dst := some 64, op := Op.move (Operand.tmp 8), type := 26, pos := "law.go:32", after := #[{ on := 17, ground := Ground.guard }], guard := some (17, false) }) (v := undef) rfl (by kernel_rfl) (by kernel_rfl) (by kernel_rfl) (fun _ _ _ h => h) (Or.inr ⟨by rfl, rfl⟩) hH0 ?_
    try simp only [Act.put, List.setIfInBounds_toArray, List.set_cons_zero, List.set_cons_succ]
    refine wpAnyH_take (i := 21) (oi := { dst := some 65, op := Op.call { callee := Callee.value (Operand.func 17), args := #[Operand.tmp 64], argTypes := #[26] }, type := 40, pos := "law.go:32", after := #[{ on := 20, ground := Ground.data }, { on := 19, ground := Ground.chain }, { on := 17, ground := Ground.guard }], guard := some (17, false) }) (v := undef) rfl (by kernel_rfl) (by kernel_rfl) (by kernel_rfl) (fun _ _ _ h => h) (Or.inr ⟨by rfl, rfl⟩) hH0 ?_
    try simp only [Act.put, List.setIfInBounds_toArray, List.set_cons_zero, List.set_cons_succ]
    refine wpAnyH_take (i := 22) (oi := { dst := some 66, op := Op.call { callee := Callee.value (Operand.func 15), args := #[Operand.tmp 63, Operand.tmp 65], argTypes := #[40, 40] }, type := 4, pos := "law.go:32", after := #[{ on := 19, ground := Ground.data }, { on := 21, ground := Ground.data }, { on := 21, ground := Ground.chain }, { on := 17, ground := Ground.guard }], guard := some (17, false) }) (v := undef) rfl (by kernel_rfl) (by kernel_rfl) (by kernel_rfl) (fun _ _ _ h => h) (Or.inr ⟨by rfl, rfl⟩) hH0 ?_
    try simp only [Act.put, List.setIfInBounds_toArray, List.set_cons_zero, List.set_cons_succ]
    refine wpAnyH_take (i := 23) (oi := { dst := some 67, op := Op.move (Operand.tmp 66), type := 4, pos := "law.go:32", after := #[{ on := 22, ground := Ground.data }, { on := 22, ground := Ground.chain }, { on := 17, ground := Ground.guard }], guard := some (17, false) }) (v := undef) rfl (by kernel_rfl) (by kernel_rfl) (by kernel_rfl) (fun _ _ _ h => h) (Or.inr ⟨by rfl, rfl⟩) hH0 ?_
    try simp only [Act.put, List.setIfInBounds_toArray, List.set_cons_zero, List.set_cons_succ]
    refine wpAnyH_take (i := 24) (oi := { dst := some 68, op := Op.move (Operand.tmp 7), type := 24, pos := "law.go:32", after := #[{ on := 23, ground := Ground.guard }], guard := some (23, true) }) (v := undef) rfl (by kernel_rfl) (by kernel_rfl) (by kernel_rfl) (fun _ _ _ h => h) (Or.inr ⟨by rfl, rfl⟩) hH0 ?_
    try simp only [Act.put, List.setIfInBounds_toArray, List.set_cons_zero, List.set_cons_succ]
    refine wpAnyH_take (i := 25) (oi := { dst := some 69, op := Op.call { callee := Callee.value (Operand.func 18), args := #[Operand.tmp 68], argTypes := #[24] }, type := 3, pos := "law.go:32", after := #[{ on := 24, ground := Ground.data }, { on := 23, ground := Ground.chain }, { on := 23, ground := Ground.guard }], guard := some (23, true) }) (v := undef) rfl (by kernel_rfl) (by kernel_rfl) (by kernel_rfl) (fun _ _ _ h => h) (Or.inr ⟨by rfl, rfl⟩) hH0 ?_
    try simp only [Act.put, List.setIfInBounds_toArray, List.set_cons_zero, List.set_cons_succ]
    refine wpAnyH_take (i := 26) (oi := { dst := some 70, op := Op.move (Operand.tmp 8), type := 26, pos := "law.go:32", after := #[{ on := 23, ground := Ground.guard }], guard := some (23, true) }) (v := undef) rfl (by kernel_rfl) (by kernel_rfl) (by kernel_rfl) (fun _ _ _ h => h) (Or.inr ⟨by rfl, rfl⟩) hH0 ?_
    try simp only [Act.put, List.setIfInBounds_toArray, List.set_cons_zero, List.set_cons_succ]
    refine wpAnyH_take (i := 27) (oi := { dst := some 71, op := Op.nilCheck (Operand.tmp 70), type := 0, pos := "law.go:32", after := #[{ on := 26, ground := Ground.data }, { on := 23, ground := Ground.guard }], guard := some (23, true) }) (v := undef) rfl (by kernel_rfl) (by kernel_rfl) (by kernel_rfl) (fun _ _ _ h => h) (Or.inr ⟨by rfl, rfl⟩) hH0 ?_
    try simp only [Act.put, List.setIfInBounds_toArray, List.set_cons_zero, List.set_cons_succ]
    refine wpAnyH_take (i := 28) (oi := { dst := some 72, op := Op.fieldAddr 29 (Operand.tmp 71) 0, type := 0, pos := "law.go:32", after := #[{ on := 27, ground := Ground.data }, { on := 23, ground := Ground.guard }], guard := some (23, true) }) (v := undef) rfl (by kernel_rfl) (by kernel_rfl) (by kernel_rfl) (fun _ _ _ h => h) (Or.inr ⟨by rfl, rfl⟩) hH0 ?_
    try simp only [Act.put, List.setIfInBounds_toArray, List.set_cons_zero, List.set_cons_succ]
    refine wpAnyH_take (i := 29) (oi := { dst := some 73, op := Op.load 27 (Operand.tmp 72), type := 27, pos := "law.go:32", after := #[{ on := 28, ground := Ground.data }, { on := 23, ground := Ground.guard }], guard := some (23, true) }) (v := undef) rfl (by kernel_rfl) (by kernel_rfl) (by kernel_rfl) (fun _ _ _ h => h) (Or.inr ⟨by rfl, rfl⟩) hH0 ?_
    try simp only [Act.put, List.setIfInBounds_toArray, List.set_cons_zero, List.set_cons_succ]
    refine wpAnyH_take (i := 30) (oi := { dst := some 74, op := Op.call { callee := Callee.builtin Builtin.len, args := #[Operand.tmp 73], argTypes := #[27] }, type := 3, pos := "law.go:32", after := #[{ on := 29, ground := Ground.data }, { on := 23, ground := Ground.guard }], guard := some (23, true) }) (v := undef) rfl (by kernel_rfl) (by kernel_rfl) (by kernel_rfl) (fun _ _ _ h => h) (Or.inr ⟨by rfl, rfl⟩) hH0 ?_
    try simp only [Act.put, List.setIfInBounds_toArray, List.set_cons_zero, List.set_cons_succ]
    refine wpAnyH_take (i := 31) (oi := { dst := some 75, op := Op.binOp BinOp.eql 3 (Operand.tmp 69) (Operand.tmp 74) 3, type := 4, pos := "law.go:32", after := #[{ on := 25, ground := Ground.data }, { on := 30, ground := Ground.data }, { on := 23, ground := Ground.guard }], guard := some (23, true) }) (v := undef) rfl (by kernel_rfl) (by kernel_rfl) (by kernel_rfl) (fun _ _ _ h => h) (Or.inr ⟨by rfl, rfl⟩) hH0 ?_
    try simp only [Act.put, List.setIfInBounds_toArray, List.set_cons_zero, List.set_cons_succ]
    refine wpAnyH_take (i := 32) (oi := { dst := some 76, op := Op.pick (Operand.tmp 67) (Operand.tmp 75) (Operand.const (Value.bool false)), type := 4, pos := "law.go:32", after := #[{ on := 23, ground := Ground.data }, { on := 31, ground := Ground.data }, { on := 17, ground := Ground.guard }], guard := some (17, false) }) (v := undef) rfl (by kernel_rfl) (by kernel_rfl) (by kernel_rfl) (fun _ _ _ h => h) (Or.inr ⟨by rfl, rfl⟩) hH0 ?_
    try simp only [Act.put, List.setIfInBounds_toArray, List.set_cons_zero, List.set_cons_succ]
    refine wpAnyH_take (i := 33) (oi := { dst := some 77, op := Op.pick (Operand.tmp 61) (Operand.const (Value.bool true)) (Operand.tmp 76), type := 4, pos := "law.go:32", after := #[{ on := 17, ground := Ground.data }, { on := 32, ground := Ground.data }, { on := 14, ground := Ground.guard }], guard := some (14, true) }) (v := ?_) rfl (by kernel_rfl) (by kernel_rfl) (by kernel_rfl) (fun _ _ _ h => h) (Or.inl ⟨by rfl, ?_⟩) hH0 ?_
    rotate_left
    · intro w' hw'
      obtain ⟨⟨s0, s1, s2, -, -, -, -⟩, ⟨t0, t1, t2, -, -, -, -⟩⟩ := hw'
      go_simp
      try with_reducible rfl
    try simp only [Act.put, List.setIfInBounds_toArray, List.set_cons_zero, List.set_cons_succ]
    refine wpAnyH_take (i := 34) (oi := { dst := some 78, op := Op.pick (Operand.tmp 58) (Operand.tmp 77) (Operand.const (Value.bool false)), type := 4, pos := "law.go:32", after := #[{ on := 14, ground := Ground.data }, { on := 33, ground := Ground.data }], guard := none }) (v := ?_) rfl (by kernel_rfl) (by kernel_rfl) (by kernel_rfl) (fun _ _ _ h => h) (Or.inl ⟨by rfl, ?_⟩) hH0 ?_
    rotate_left
    · intro w' hw'
      obtain ⟨⟨s0, s1, s2, -, -, -, -⟩, ⟨t0, t1, t2, -, -, -, -⟩⟩ := hw'
      go_simp
      try with_reducible rfl
    try simp only [Act.put, List.setIfInBounds_toArray, List.set_cons_zero, List.set_cons_succ]
    refine wpAnyH_take (i := 35) (oi := { dst := some 79, op := Op.move (Operand.tmp 78), type := 4, pos := "law.go:32", after := #[{ on := 34, ground := Ground.data }, { on := 25, ground := Ground.chain }], guard := none }) (v := ?_) rfl (by kernel_rfl) (by kernel_rfl) (by kernel_rfl) (fun _ _ _ h => h) (Or.inl ⟨by rfl, ?_⟩) hH0 ?_
    rotate_left
    · intro w' hw'
      obtain ⟨⟨s0, s1, s2, -, -, -, -⟩, ⟨t0, t1, t2, -, -, -, -⟩⟩ := hw'
      go_simp
      try with_reducible rfl
    try simp only [Act.put, List.setIfInBounds_toArray, List.set_cons_zero, List.set_cons_succ]
    refine wpAnyH_ready (rs := [36]) (by kernel_rfl) (by simp) ?_
    refine AllReadyH.cons (o := { dst := some 80, op := Op.call { callee := Callee.value (Operand.func 19), args := #[], argTypes := #[] }, type := 4, pos := "law.go:32", after := #[{ on := 35, ground := Ground.chain }, { on := 35, ground := Ground.guard }], guard := some (35, true) }) rfl (fun K hK => ?_) AllReadyH.nil
    go_simp
    refine KW.out.mono ?_
    rintro e w7 ⟨rfl, b7⟩
    have b7' := hide (E5.out.drew.bel.trans (b7.mono (Nat.le_trans E5.out.bel.size (Nat.le_refl _))))
    refine hK.out _ _ ⟨X5.out.drew.kept b7 X5.out.lt, Y5.out.drew.kept b7 Y5.out.lt⟩ (fun hH1 => ?_)
    clear hK
    try simp only [Act.put, List.setIfInBounds_toArray, List.set_cons_zero, List.set_cons_succ]
    refine wpAnyH_take (i := 37) (oi := { dst := some 81, op := Op.pick (Operand.tmp 79) (Operand.tmp 80) (Operand.const (Value.bool false)), type := 4, pos := "law.go:32", after := #[{ on := 35, ground := Ground.data }, { on := 36, ground := Ground.data }], guard := none }) (v := ?_) rfl (by kernel_rfl) (by kernel_rfl) (by kernel_rfl) (fun _ _ _ h => h) (Or.inl ⟨by rfl, ?_⟩) hH1 ?_
    rotate_left
    · intro w' hw'
      obtain ⟨⟨s0, s1, s2, -, -, -, -⟩, ⟨t0, t1, t2, -, -, -, -⟩⟩ := hw'
      go_simp
      try with_reducible rfl
    try simp only [Act.put, List.setIfInBounds_toArray, List.set_cons_zero, List.set_cons_succ]
    refine wpAnyH_take (i := 38) (oi := { dst := some 6, op := Op.assign (Operand.tmp 81), type := 4, pos := "law.go:32", after := #[{ on := 37, ground := Ground.data }, { on := 36, ground := Ground.chain }, { on := 0, ground := Ground.phase }, { on := 1, ground := Ground.phase }, { on := 2, ground := Ground.phase }, { on := 3, ground := Ground.phase }, { on := 4, ground := Ground.phase }, { on := 5, ground := Ground.phase }, { on := 6, ground := Ground.phase }, { on := 7, ground := Ground.phase }, { on := 8, ground := Ground.phase }, { on := 9, ground := Ground.phase }, { on := 10, ground := Ground.phase }, { on := 11, ground := Ground.phase }, { on := 12, ground := Ground.phase }, { on := 13, ground := Ground.phase }, { on := 14, ground := Ground.phase }, { on := 15, ground := Ground.phase }, { on := 16, ground := Ground.phase }, { on := 17, ground := Ground.phase }, { on := 18, ground := Ground.phase }, { on := 19, ground := Ground.phase }, { on := 20, ground := Ground.phase }, { on := 21, ground := Ground.phase }, { on := 22, ground := Ground.phase }, { on := 23, ground := Ground.phase }, { on := 24, ground := Ground.phase }, { on := 25, ground := Ground.phase }, { on := 26, ground := Ground.phase }, { on := 27, ground := Ground.phase }, { on := 28, ground := Ground.phase }, { on := 29, ground := Ground.phase }, { on := 30, ground := Ground.phase }, { on := 31, ground := Ground.phase }, { on := 32, ground := Ground.phase }, { on := 33, ground := Ground.phase }, { on := 34, ground := Ground.phase }, { on := 35, ground := Ground.phase }, { on := 36, ground := Ground.phase }, { on := 37, ground := Ground.phase }], guard := none }) (v := ?_) rfl (by kernel_rfl) (by kernel_rfl) (by kernel_rfl) (fun _ _ _ h => h) (Or.inl ⟨by rfl, ?_⟩) hH1 ?_
    rotate_left
    · intro w' hw'
      obtain ⟨⟨s0, s1, s2, -, -, -, -⟩, ⟨t0, t1, t2, -, -, -, -⟩⟩ := hw'
      go_simp
      try with_reducible rfl
    try simp only [Act.put, List.setIfInBounds_toArray, List.set_cons_zero, List.set_cons_succ]
    refine wpAnyH_done (by kernel_rfl) ?_ _
    refine NoPanic.normal ?_
    go_wp2_with fail
    go_ret
    exact ⟨rfl, b7'.out⟩
  · rw [Bool.and_eq_true] at hok
    obtain ⟨n, l, d, rfl, rfl, rfl, hs⟩ := okS_of hok.1
    have htt := okT_of hok.2
    obtain ⟨t, rfl⟩ := Int.eq_ofNat_of_zero_le htt.ge
    have P3 := hide (putS E3.out.wr E3.out.t hpos.out hs htt (by omega))
    have P4 := hide (fun (wx : World) (h : RW wx w.heap.size r u3 M3) => rputS h hs htt (by omega))
    have hcn := cdN_le n l d t
    generalize cdN n l d t = Y at *
    generalize cdX n l d t = X at *
    generalize dl n l t = q at *
    obtain ⟨n1, hn1⟩ : ∃ n1, n + 1 = n1 := ⟨_, rfl⟩
    rw [hn1] at P3 P4
    replace hs := hide hs
    replace htt := hide htt
    clear hok hn1
    go_wp2_with fail
    refine P3.out.mono ?_
    rintro e w4 ⟨rfl, v4, W4, D4⟩
    have E4 := hide ((E3.out.put1 D4 W4).below ((Below.refl _ w4).alloc (Nat.le_refl _) (.cells #[.int .i64 (n1 : Int), .int .i64 (t : Int), .int .i64 (q : Int)] 23)))
    have S4 := hide ((S3.out.did D4 f1'.out).kept ((Below.refl _ w4).alloc (Nat.le_refl _) (.cells #[.int .i64 (n1 : Int), .int .i64 (t : Int), .int .i64 (q : Int)] 23)) (Nat.lt_of_lt_of_le S3.out.lt D4.bel.size))
    have X4 := hide (Box3.new w4 (.int .i64 (n1 : Int)) (.int .i64 (t : Int)) (.int .i64 (q : Int)) 23)
    have f9 := E3.out.rw.not D4.bel.size
    have P4' := hide (P4.out _ E4.out.rw)
    clear P3 W4 D4 E3 S3 s0 s1 s2 P4
    have s0 := S4.out.c0
    have s1 := S4.out.c1
    have s2 := S4.out.c2
    go_wp2_with fail
    refine P4'.out.mono ?_
    rintro e w5 ⟨rfl, u5, M5, W5, n5, l5, D5⟩
    have X5 := hide ((X4.out.did D5 f9).kept ((Below.refl _ w5).alloc (Nat.le_refl _) (.cells #[.int .i64 (n1 : Int), .int .i64 (t : Int), .int .i64 (q : Int)] 36)) (Nat.lt_of_lt_of_le X4.out.lt D5.bel.size))
    have Y5 := hide (Box3.new w5 (.int .i64 (n1 : Int)) (.int .i64 (t : Int)) (.int .i64 (q : Int)) 36)
    have E5 := hide ((E4.out.put2 D5 W5).below ((Below.refl _ w5).alloc (Nat.le_refl _) (.cells #[.int .i64 (n1 : Int), .int .i64 (t : Int), .int .i64 (q : Int)] 36)))
    rw [← n5, ← l5] at E5
    have hl5 : M5.length ≤ 524288 := by omega
    clear P4' W5 D5 E4 S4 s0 s1 s2 f9 X4 n5 l5
    go_upto_region 7 with fail
    have heq : ∀ w, (binOp .eql 36 (.agg #[.int .i64 (n1 : Int), .int .i64 (t : Int), .int .i64 (q : Int)]) (.agg #[.int .i64 (n1 : Int), .int .i64 (t : Int), .int .i64 (q : Int)])).run Tryd.prog w = .ok (.bool true) w := fun w => by rw [run_eql36]; simp
    generalize w4.heap.size = g9 at *
    generalize w5.alloc (.cells #[.int .i64 (n1 : Int), .int .i64 (t : Int), .int .i64 (q : Int)] 36) = w6 at *
    generalize w5.heap.size = g11 at *
    obtain ⟨ar, cr, hu⟩ := E5.out.rw.slice
    have hr0 := E5.out.rw.c0
    rw [hu] at hr0
    obtain ⟨lx, Hx⟩ := E5.out.wr.holds
    replace Hx := hide Hx
    have BY := hide (bytesWr E5.out.drew.wr hl5 lx Hx.out)
    have hlt9 := hide X5.out.lt
    have hlt11 := hide Y5.out.lt
    have hltr := hide E5.out.rw.lt
    replace hl5 := hide hl5
    obtain ⟨ln, hln⟩ : ∃ ln, M5.length = ln := ⟨_, rfl⟩
    replace hu := hide hu
    refine wp_region_noPanic ?_
    refine wp_region_held_drew (S := fun w' => Box3 w' g9 (.int .i64 (n1 : Int)) (.int .i64 (t : Int)) (.int .i64 (q : Int)) ∧ Box3 w' g11 (.int .i64 (n1 : Int)) (.int .i64 (t : Int)) (.int .i64 (q : Int)) ∧ w'.cell? ⟨r, 0, none⟩ = some (.slice ar ln cr)) (by kernel_rfl) ⟨X5.out.drew, Y5.out.drew, by rw [← hln]; exact hr0⟩ (fun hH0 => ?_)
    refine wpAnyH_take (i := 0) (oi := { dst := some 44, op := Op.fieldAddr 23 (Operand.tmp 9) 0, type := 0, pos := "law.go:32", after := #[], guard := none }) (v := ?_) rfl (by kernel_rfl) (by kernel_rfl) (by kernel_rfl) (fun _ _ _ h => h) (Or.inl ⟨by rfl, ?_⟩) hH0 ?_
    rotate_left
    · intro w' hw'
      obtain ⟨⟨s0, s1, s2, -, -, -, -⟩, ⟨t0, t1, t2, -, -, -, -⟩, x0⟩ := hw'
      go_simp
      try with_reducible rfl
    try simp only [Act.put, List.setIfInBounds_toArray, List.set_cons_zero, List.set_cons_succ]
    refine wpAnyH_take (i := 1) (oi := { dst := some 45, op := Op.load 3 (Operand.tmp 44), type := 3, pos := "law.go:32", after := #[{ on := 0, ground := Ground.data }], guard := none }) (v := ?_) rfl (by kernel_rfl) (by kernel_rfl) (by kernel_rfl) (fun _ _ _ h => h) (Or.inl ⟨by rfl, ?_⟩) hH0 ?_
    rotate_left
    · intro w' hw'
      obtain ⟨⟨s0, s1, s2, -, -, -, -⟩, ⟨t0, t1, t2, -, -, -, -⟩, x0⟩ := hw'
      go_simp
      try with_reducible rfl
    try simp only [Act.put, List.setIfInBounds_toArray, List.set_cons_zero, List.set_cons_succ]
    refine wpAnyH_take (i := 2) (oi := { dst := some 46, op := Op.fieldAddr 23 (Operand.tmp 9) 1, type := 0, pos := "law.go:32", after := #[], guard := none }) (v := ?_) rfl (by kernel_rfl) (by kernel_rfl) (by kernel_rfl) (fun _ _ _ h => h) (Or.inl ⟨by rfl, ?_⟩) hH0 ?_
    rotate_left
    · intro w' hw'
      obtain ⟨⟨s0, s1, s2, -, -, -, -⟩, ⟨t0, t1, t2, -, -, -, -⟩, x0⟩ := hw'
      go_simp
      try with_reducible rfl
    try simp only [Act.put, List.setIfInBounds_toArray, List.set_cons_zero, List.set_cons_succ]
    refine wpAnyH_take (i := 3) (oi := { dst := some 47, op := Op.load 3 (Operand.tmp 46), type := 3, pos := "law.go:32", after := #[{ on := 2, ground := Ground.data }], guard := none }) (v := ?_) rfl (by kernel_rfl) (by kernel_rfl) (by kernel_rfl) (fun _ _ _ h => h) (Or.inl ⟨by rfl, ?_⟩) hH0 ?_
    rotate_left
    · intro w' hw'
      obtain ⟨⟨s0, s1, s2, -, -, -, -⟩, ⟨t0, t1, t2, -, -, -, -⟩, x0⟩ := hw'
      go_simp
      try with_reducible rfl
    try simp only [Act.put, List.setIfInBounds_toArray, List.set_cons_zero, List.set_cons_succ]
    refine wpAnyH_take (i := 4) (oi := { dst := some 48, op := Op.fieldAddr 23 (Operand.tmp 9) 2, type := 0, pos := "law.go:32", after := #[], guard := none }) (v := ?_) rfl (by kernel_rfl) (by kernel_rfl) (by kernel_rfl) (fun _ _ _ h => h) (Or.inl ⟨by rfl, ?_⟩) hH0 ?_
    rotate_left
    · intro w' hw'
      obtain ⟨⟨s0, s1, s2, -, -, -, -⟩, ⟨t0, t1, t2, -, -, -, -⟩, x0⟩ := hw'
      go_simp
      try with_reducible rfl
    try simp only [Act.put, List.setIfInBounds_toArray, List.set_cons_zero, List.set_cons_succ]
    refine wpAnyH_take (i := 5) (oi := { dst := some 49, op := Op.load 3 (Operand.tmp 48), type := 3, pos := "law.go:32", after := #[{ on := 4, ground := Ground.data }], guard := none }) (v := ?_) rfl (by kernel_rfl) (by kernel_rfl) (by kernel_rfl) (fun _ _ _ h => h) (Or.inl ⟨by rfl, ?_⟩) hH0 ?_
    rotate_left
    · intro w' hw'
      obtain ⟨⟨s0, s1, s2, -, -, -, -⟩, ⟨t0, t1, t2, -, -, -, -⟩, x0⟩ := hw'
      go_simp
      try with_reducible rfl
    try simp only [Act.put, List.setIfInBounds_toArray, List.set_cons_zero, List.set_cons_succ]
    refine wpAnyH_take (i := 6) (oi := { dst := some 50, op := Op.build 36 #[(0, Operand.tmp 45), (1, Operand.tmp 47), (2, Operand.tmp 49)], type := 36, pos := "law.go:32", after := #[{ on := 1, ground := Ground.data }, { on := 3, ground := Ground.data }, { on := 5, ground := Ground.data }], guard := none }) (v := ?_) rfl (by kernel_rfl) (by kernel_rfl) (by kernel_rfl) (fun _ _ _ h => h) (Or.inl ⟨by rfl, ?_⟩) hH0 ?_
    rotate_left
    · intro w' hw'
      obtain ⟨⟨s0, s1, s2, -, -, -, -⟩, ⟨t0, t1, t2, -, -, -, -⟩, x0⟩ := hw'
      go_simp
      try with_reducible rfl
    try simp only [Act.put, List.setIfInBounds_toArray, List.set_cons_zero, List.set_cons_succ]
    refine wpAnyH_take (i := 7) (oi := { dst := some 51, op := Op.load 36 (Operand.tmp 11), type := 36, pos := "law.go:32", after := #[], guard := none }) (v := ?_) rfl (by kernel_rfl) (by kernel_rfl) (by kernel_rfl) (fun _ _ _ h => h) (Or.inl ⟨by rfl, ?_⟩) hH0 ?_
    rotate_left
    · intro w' hw'
      obtain ⟨⟨s0, s1, s2, -, -, -, -⟩, ⟨t0, t1, t2, -, -, -, -⟩, x0⟩ := hw'
      go_simp
      try with_reducible rfl
    try simp only [Act.put, List.setIfInBounds_toArray, List.set_cons_zero, List.set_cons_succ]
    refine wpAnyH_take (i := 8) (oi := { dst := some 52, op := Op.binOp BinOp.eql 36 (Operand.tmp 50) (Operand.tmp 51) 36, type := 4, pos := "law.go:32", after := #[{ on := 6, ground := Ground.data }, { on := 7, ground := Ground.data }], guard := none }) (v := ?_) rfl (by kernel_rfl) (by kernel_rfl) (by kernel_rfl) (fun _ _ _ h => h) (Or.inl ⟨by rfl, ?_⟩) hH0 ?_
    rotate_left
    · intro w' hw'
      obtain ⟨⟨s0, s1, s2, -, -, -, -⟩, ⟨t0, t1, t2, -, -, -, -⟩, x0⟩ := hw'
      go_simp
      try with_reducible rfl
    try simp only [Act.put, List.setIfInBounds_toArray, List.set_cons_zero, List.set_cons_succ]
    refine wpAnyH_take (i := 9) (oi := { dst := some 53, op := Op.move (Operand.tmp 52), type := 4, pos := "law.go:32", after := #[{ on := 8, ground := Ground.data }], guard := none }) (v := ?_) rfl (by kernel_rfl) (by kernel_rfl) (by kernel_rfl) (fun _ _ _ h => h) (Or.inl ⟨by rfl, ?_⟩) hH0 ?_
    rotate_left
    · intro w' hw'
      obtain ⟨⟨s0, s1, s2, -, -, -, -⟩, ⟨t0, t1, t2, -, -, -, -⟩, x0⟩ := hw'
      go_simp
      try with_reducible rfl
    try simp only [Act.put, List.setIfInBounds_toArray, List.set_cons_zero, List.set_cons_succ]
    refine wpAnyH_take (i := 10) (oi := { dst := some 54, op := Op.move (Operand.tmp 10), type := 31, pos := "law.go:32", after := #[{ on := 9, ground := Ground.guard }], guard := some (9, true) }) (v := ?_) rfl (by kernel_rfl) (by kernel_rfl) (by kernel_rfl) (fun _ _ _ h => h) (Or.inl ⟨by rfl, ?_⟩) hH0 ?_
    rotate_left
    · intro w' hw'
      obtain ⟨⟨s0, s1, s2, -, -, -, -⟩, ⟨t0, t1, t2, -, -, -, -⟩, x0⟩ := hw'
      go_simp
      try with_reducible rfl
    try simp only [Act.put, List.setIfInBounds_toArray, List.set_cons_zero, List.set_cons_succ]
    refine wpAnyH_take (i := 11) (oi := { dst := some 55, op := Op.move (Operand.tmp 12), type := 31, pos := "law.go:32", after := #[{ on := 9, ground := Ground.guard }], guard := some (9, true) }) (v := ?_) rfl (by kernel_rfl) (by kernel_rfl) (by kernel_rfl) (fun _ _ _ h => h) (Or.inl ⟨by rfl, ?_⟩) hH0 ?_
    rotate_left
    · intro w' hw'
      obtain ⟨⟨s0, s1, s2, -, -, -, -⟩, ⟨t0, t1, t2, -, -, -, -⟩, x0⟩ := hw'
      go_simp
      try with_reducible rfl
    try simp only [Act.put, List.setIfInBounds_toArray, List.set_cons_zero, List.set_cons_succ]
    refine wpAnyH_take (i := 12) (oi := { dst := some 56, op := Op.binOp BinOp.eql 31 (Operand.tmp 54) (Operand.tmp 55) 31, type := 4, pos := "law.go:32", after := #[{ on := 10, ground := Ground.data }, { on := 11, ground := Ground.data }, { on := 9, ground := Ground.guard }], guard := some (9, true) }) (v := ?_) rfl (by kernel_rfl) (by kernel_rfl) (by kernel_rfl) (fun _ _ _ h => h) (Or.inl ⟨by rfl, ?_⟩) hH0 ?_
    rotate_left
    · intro w' hw'
      obtain ⟨⟨s0, s1, s2, -, -, -, -⟩, ⟨t0, t1, t2, -, -, -, -⟩, x0⟩ := hw'
      go_simp
      try with_reducible rfl
    try simp only [Act.put, List.setIfInBounds_toArray, List.set_cons_zero, List.set_cons_succ]
    refine wpAnyH_take (i := 13) (oi := { dst := some 57, op := Op.pick (Operand.tmp 53) (Operand.tmp 56) (Operand.const (Value.bool false)), type := 4, pos := "law.go:32", after := #[{ on := 9, ground := Ground.data }, { on := 12, ground := Ground.data }], guard := none }) (v := ?_) rfl (by kernel_rfl) (by kernel_rfl) (by kernel_rfl) (fun _ _ _ h => h) (Or.inl ⟨by rfl, ?_⟩) hH0 ?_
    rotate_left
    · intro w' hw'
      obtain ⟨⟨s0, s1, s2, -, -, -, -⟩, ⟨t0, t1, t2, -, -, -, -⟩, x0⟩ := hw'
      go_simp
      try with_reducible rfl
    try simp only [Act.put, List.setIfInBounds_toArray, List.set_cons_zero, List.set_cons_succ]
    refine wpAnyH_take (i := 14) (oi := { dst := some 58, op := Op.move (Operand.tmp 57), type := 4, pos := "law.go:32", after := #[{ on := 13, ground := Ground.data }, { on := 9, ground := Ground.chain }], guard := none }) (v := ?_) rfl (by kernel_rfl) (by kernel_rfl) (by kernel_rfl) (fun _ _ _ h => h) (Or.inl ⟨by rfl, ?_⟩) hH0 ?_
    rotate_left
    · intro w' hw'
      obtain ⟨⟨s0, s1, s2, -, -, -, -⟩, ⟨t0, t1, t2, -, -, -, -⟩, x0⟩ := hw'
      go_simp
      try with_reducible rfl
    try simp only [Act.put, List.setIfInBounds_toArray, List.set_cons_zero, List.set_cons_succ]
    refine wpAnyH_take (i := 15) (oi := { dst := some 59, op := Op.move (Operand.tmp 10), type := 31, pos := "law.go:32", after := #[{ on := 14, ground := Ground.guard }], guard := some (14, true) }) (v := ?_) rfl (by kernel_rfl) (by kernel_rfl) (by kernel_rfl) (fun _ _ _ h => h) (Or.inl ⟨by rfl, ?_⟩) hH0 ?_
    rotate_left
    · intro w' hw'
      obtain ⟨⟨s0, s1, s2, -, -, -, -⟩, ⟨t0, t1, t2, -, -, -, -⟩, x0⟩ := hw'
      go_simp
      try with_reducible rfl
    try simp only [Act.put, List.setIfInBounds_toArray, List.set_cons_zero, List.set_cons_succ]
    refine wpAnyH_take (i := 16) (oi := { dst := some 60, op := Op.binOp BinOp.neq 31 (Operand.tmp 59) (Operand.const (Value.int IntKind.i64 0)) 31, type := 4, pos := "law.go:32", after := #[{ on := 15, ground := Ground.data }, { on := 14, ground := Ground.guard }], guard := some (14, true) }) (v := ?_) rfl (by kernel_rfl) (by kernel_rfl) (by kernel_rfl) (fun _ _ _ h => h) (Or.inl ⟨by rfl, ?_⟩) hH0 ?_
    rotate_left
    · intro w' hw'
      obtain ⟨⟨s0, s1, s2, -, -, -, -⟩, ⟨t0, t1, t2, -, -, -, -⟩, x0⟩ := hw'
      go_simp
      try with_reducible rfl
    try simp only [Act.put, List.setIfInBounds_toArray, List.set_cons_zero, List.set_cons_succ]
    refine wpAnyH_take (i := 17) (oi := { dst := some 61, op := Op.move (Operand.tmp 60), type := 4, pos := "law.go:32", after := #[{ on := 16, ground := Ground.data }, { on := 14, ground := Ground.chain }, { on := 14, ground := Ground.guard }], guard := some (14, true) }) (v := ?_) rfl (by kernel_rfl) (by kernel_rfl) (by kernel_rfl) (fun _ _ _ h => h) (Or.inl ⟨by rfl, ?_⟩) hH0 ?_
    rotate_left
    · intro w' hw'
      obtain ⟨⟨s0, s1, s2, -, -, -, -⟩, ⟨t0, t1, t2, -, -, -, -⟩, x0⟩ := hw'
      go_simp
      try with_reducible rfl
    try simp only [Act.put, List.setIfInBounds_toArray, List.set_cons_zero, List.set_cons_succ]
    refine wpAnyH_take (i := 18) (oi := { dst := some 62, op := Op.move (Operand.tmp 7), type := 24, pos := "law.go:32", after := #[{ on := 17, ground := Ground.guard }], guard := some (17, false) }) (v := ?_) rfl (by kernel_rfl) (by kernel_rfl) (by kernel_rfl) (fun _ _ _ h => h) (Or.inl ⟨by rfl, ?_⟩) hH0 ?_
    rotate_left
    · intro w' hw'
      obtain ⟨⟨s0, s1, s2, -, -, -, -⟩, ⟨t0, t1, t2, -, -, -, -⟩, x0⟩ := hw'
      go_simp
      try with_reducible rfl
    try simp only [Act.put, List.setIfInBounds_toArray, List.set_cons_zero, List.set_cons_succ]
    refine wpAnyH_take (i := 20) (oi := { dst := some 64, op := Op.move (Operand.tmp 8), type := 26, pos := "law.go:32", after := #[{ on := 17, ground := Ground.guard }], guard := some (17, false) }) (v := ?_) rfl (by kernel_rfl) (by kernel_rfl) (by kernel_rfl) (fun _ _ _ h => h) (Or.inl ⟨by rfl, ?_⟩) hH0 ?_
    rotate_left
    · intro w' hw'
      obtain ⟨⟨s0, s1, s2, -, -, -, -⟩, ⟨t0, t1, t2, -, -, -, -⟩, x0⟩ := hw'
      go_simp
      try with_reducible rfl
    try simp only [Act.put, List.setIfInBounds_toArray, List.set_cons_zero, List.set_cons_succ]
    refine wpAnyH_ready (rs := [19]) (by kernel_rfl) (by simp) ?_
    refine AllReadyH.cons (o := { dst := some 63, op := Op.call { callee := Callee.value (Operand.func 16), args := #[Operand.tmp 62], argTypes := #[24] }, type := 40, pos := "law.go:32", after := #[{ on := 18, ground := Ground.data }, { on := 17, ground := Ground.chain }, { on := 17, ground := Ground.guard }], guard := some (17, false) }) rfl (fun K hK => ?_) AllReadyH.nil
    go_simp
    refine BY.out.mono ?_
    rintro e w7 ⟨a7, n7, c7, rfl, H7, b7, -⟩
    have E7 := hide (E5.out.drew.below b7)
    have Q7 : Box3 w7 g9 (.int .i64 (n1 : Int)) (.int .i64 (t : Int)) (.int .i64 (q : Int)) ∧ Box3 w7 g11 (.int .i64 (n1 : Int)) (.int .i64 (t : Int)) (.int .i64 (q : Int)) ∧ w7.cell? ⟨r, 0, none⟩ = some (.slice ar ln cr) := ⟨X5.out.drew.kept b7 hlt9.out, Y5.out.drew.kept b7 hlt11.out, (b7.cell (p := ⟨r, 0, none⟩) hltr.out).trans (by rw [← hln]; exact hr0)⟩
    have RB := hide (rbytes_any E7.out.rw hl5.out)
    replace H7 := hide H7
    have hb7 := hide b7.size
    clear BY b7
    refine hK.out _ _ Q7 (fun hH1 => ?_)
    clear hK
    try simp only [Act.put, List.setIfInBounds_toArray, List.set_cons_zero, List.set_cons_succ]
    refine wpAnyH_ready (rs := [21]) (by kernel_rfl) (by simp) ?_
    refine AllReadyH.cons (o := { dst := some 65, op := Op.call { callee := Callee.value (Operand.func 17), args := #[Operand.tmp 64], argTypes := #[26] }, type := 40, pos := "law.go:32", after := #[{ on := 20, ground := Ground.data }, { on := 19, ground := Ground.chain }, { on := 17, ground := Ground.guard }], guard := some (17, false) }) rfl (fun K hK => ?_) AllReadyH.nil
    go_simp
    refine RB.out.mono ?_
    rintro e w8 ⟨ly, Hy, a8, n8, c8, rfl, H8, b8, -⟩
    have E8 := hide (E7.out.below b8)
    have Q8 : Box3 w8 g9 (.int .i64 (n1 : Int)) (.int .i64 (t : Int)) (.int .i64 (q : Int)) ∧ Box3 w8 g11 (.int .i64 (n1 : Int)) (.int .i64 (t : Int)) (.int .i64 (q : Int)) ∧ w8.cell? ⟨r, 0, none⟩ = some (.slice ar ln cr) := ⟨Q7.1.kept b8 Q7.1.lt, Q7.2.1.kept b8 Q7.2.1.lt, (b8.cell (p := ⟨r, 0, none⟩) (Nat.lt_of_lt_of_le hltr.out hb7.out)).trans Q7.2.2⟩
    have SY := hide (same_yes _ _ _ _ _ _ _ _ _ (H7.out.kept b8 (Nat.le_refl _)) H8 (Hx.out.same Hy))
    have LE := hide (lenWr E8.out.wr)
    rw [hln] at LE
    have KW := hide (works_any _ E8.out.t)
    clear RB b8 H8 Hy
    refine hK.out _ _ Q8 (fun hH2 => ?_)
    clear hK
    try simp only [Act.put, List.setIfInBounds_toArray, List.set_cons_zero, List.set_cons_succ]
    refine wpAnyH_ready (rs := [22]) (by kernel_rfl) (by simp) ?_
    refine AllReadyH.cons (o := { dst := some 66, op := Op.call { callee := Callee.value (Operand.func 15), args := #[Operand.tmp 63, Operand.tmp 65], argTypes := #[40, 40] }, type := 4, pos := "law.go:32", after := #[{ on := 19, ground := Ground.data }, { on := 21, ground := Ground.data }, { on := 21, ground := Ground.chain }, { on := 17, ground := Ground.guard }], guard := some (17, false) }) rfl (fun K hK => ?_) AllReadyH.nil
    go_simp
    refine SY.out.mono ?_
    rintro e w9 ⟨rfl, rfl⟩
    refine hK.out _ _ Q8 (fun hH3 => ?_)
    clear hK
    try simp only [Act.put, List.setIfInBounds_toArray, List.set_cons_zero, List.set_cons_succ]
    refine wpAnyH_take (i := 23) (oi := { dst := some 67, op := Op.move (Operand.tmp 66), type := 4, pos := "law.go:32", after := #[{ on := 22, ground := Ground.data }, { on := 22, ground := Ground.chain }, { on := 17, ground := Ground.guard }], guard := some (17, false) }) (v := ?_) rfl (by kernel_rfl) (by kernel_rfl) (by kernel_rfl) (fun _ _ _ h => h) (Or.inl ⟨by rfl, ?_⟩) hH3 ?_
    rotate_left
    · intro w' hw'
      obtain ⟨⟨s0, s1, s2, -, -, -, -⟩, ⟨t0, t1, t2, -, -, -, -⟩, x0⟩ := hw'
      go_simp
      try with_reducible rfl
    try simp only [Act.put, List.setIfInBounds_toArray, List.set_cons_zero, List.set_cons_succ]
    refine wpAnyH_take (i := 24) (oi := { dst := some 68, op := Op.move (Operand.tmp 7), type := 24, pos := "law.go:32", after := #[{ on := 23, ground := Ground.guard }], guard := some (23, true) }) (v := ?_) rfl (by kernel_rfl) (by kernel_rfl) (by kernel_rfl) (fun _ _ _ h => h) (Or.inl ⟨by rfl, ?_⟩) hH3 ?_
    rotate_left
    · intro w' hw'
      obtain ⟨⟨s0, s1, s2, -, -, -, -⟩, ⟨t0, t1, t2, -, -, -, -⟩, x0⟩ := hw'
      go_simp
      try with_reducible rfl
    try simp only [Act.put, List.setIfInBounds_toArray, List.set_cons_zero, List.set_cons_succ]
    refine wpAnyH_take (i := 26) (oi := { dst := some 70, op := Op.move (Operand.tmp 8), type := 26, pos := "law.go:32", after := #[{ on := 23, ground := Ground.guard }], guard := some (23, true) }) (v := ?_) rfl (by kernel_rfl) (by kernel_rfl) (by kernel_rfl) (fun _ _ _ h => h) (Or.inl ⟨by rfl, ?_⟩) hH3 ?_
    rotate_left
    · intro w' hw'
      obtain ⟨⟨s0, s1, s2, -, -, -, -⟩, ⟨t0, t1, t2, -, -, -, -⟩, x0⟩ := hw'
      go_simp
      try with_reducible rfl
    try simp only [Act.put, List.setIfInBounds_toArray, List.set_cons_zero, List.set_cons_succ]
    refine wpAnyH_take (i := 27) (oi := { dst := some 71, op := Op.nilCheck (Operand.tmp 70), type := 0, pos := "law.go:32", after := #[{ on := 26, ground := Ground.data }, { on := 23, ground := Ground.guard }], guard := some (23, true) }) (v := ?_) rfl (by kernel_rfl) (by kernel_rfl) (by kernel_rfl) (fun _ _ _ h => h) (Or.inl ⟨by rfl, ?_⟩) hH3 ?_
    rotate_left
    · intro w' hw'
      obtain ⟨⟨s0, s1, s2, -, -, -, -⟩, ⟨t0, t1, t2, -, -, -, -⟩, x0⟩ := hw'
      go_simp
      try with_reducible rfl
    try simp only [Act.put, List.setIfInBounds_toArray, List.set_cons_zero, List.set_cons_succ]
    refine wpAnyH_take (i := 28) (oi := { dst := some 72, op := Op.fieldAddr 29 (Operand.tmp 71) 0, type := 0, pos := "law.go:32", after := #[{ on := 27, ground := Ground.data }, { on := 23, ground := Ground.guard }], guard := some (23, true) }) (v := ?_) rfl (by kernel_rfl) (by kernel_rfl) (by kernel_rfl) (fun _ _ _ h => h) (Or.inl ⟨by rfl, ?_⟩) hH3 ?_
    rotate_left
    · intro w' hw'
      obtain ⟨⟨s0, s1, s2, -, -, -, -⟩, ⟨t0, t1, t2, -, -, -, -⟩, x0⟩ := hw'
      go_simp
      try with_reducible rfl
    try simp only [Act.put, List.setIfInBounds_toArray, List.set_cons_zero, List.set_cons_succ]
    refine wpAnyH_take (i := 29) (oi := { dst := some 73, op := Op.load 27 (Operand.tmp 72), type := 27, pos := "law.go:32", after := #[{ on := 28, ground := Ground.data }, { on := 23, ground := Ground.guard }], guard := some (23, true) }) (v := ?_) rfl (by kernel_rfl) (by kernel_rfl) (by kernel_rfl) (fun _ _ _ h => h) (Or.inl ⟨by rfl, ?_⟩) hH3 ?_
    rotate_left
    · intro w' hw'
      obtain ⟨⟨s0, s1, s2, -, -, -, -⟩, ⟨t0, t1, t2, -, -, -, -⟩, x0⟩ := hw'
      go_simp
      try with_reducible rfl
    try simp only [Act.put, List.setIfInBounds_toArray, List.set_cons_zero, List.set_cons_succ]
    refine wpAnyH_take (i := 30) (oi := { dst := some 74, op := Op.call { callee := Callee.builtin Builtin.len, args := #[Operand.tmp 73], argTypes := #[27] }, type := 3, pos := "law.go:32", after := #[{ on := 29, ground := Ground.data }, { on := 23, ground := Ground.guard }], guard := some (23, true) }) (v := ?_) rfl (by kernel_rfl) (by kernel_rfl) (by kernel_rfl) (fun _ _ _ h => h) (Or.inl ⟨by rfl, ?_⟩) hH3 ?_
    rotate_left
    · intro w' hw'
      obtain ⟨⟨s0, s1, s2, -, -, -, -⟩, ⟨t0, t1, t2, -, -, -, -⟩, x0⟩ := hw'
      go_simp
      try with_reducible rfl
    try simp only [Act.put, List.setIfInBounds_toArray, List.set_cons_zero, List.set_cons_succ]
    refine wpAnyH_ready (rs := [25]) (by kernel_rfl) (by simp) ?_
    refine AllReadyH.cons (o := { dst := some 69, op := Op.call { callee := Callee.value (Operand.func 18), args := #[Operand.tmp 68], argTypes := #[24] }, type := 3, pos := "law.go:32", after := #[{ on := 24, ground := Ground.data }, { on := 23, ground := Ground.chain }, { on := 23, ground := Ground.guard }], guard := some (23, true) }) rfl (fun K hK => ?_) AllReadyH.nil
    go_simp
    refine LE.out.mono ?_
    rintro e w9 ⟨rfl, rfl⟩
    refine hK.out _ _ Q8 (fun hH4 => ?_)
    clear hK
    try simp only [Act.put, List.setIfInBounds_toArray, List.set_cons_zero, List.set_cons_succ]
    refine wpAnyH_take (i := 31) (oi := { dst := some 75, op := Op.binOp BinOp.eql 3 (Operand.tmp 69) (Operand.tmp 74) 3, type := 4, pos := "law.go:32", after := #[{ on := 25, ground := Ground.data }, { on := 30, ground := Ground.data }, { on := 23, ground := Ground.guard }], guard := some (23, true) }) (v := ?_) rfl (by kernel_rfl) (by kernel_rfl) (by kernel_rfl) (fun _ _ _ h => h) (Or.inl ⟨by rfl, ?_⟩) hH4 ?_
    rotate_left
    · intro w' hw'
      obtain ⟨⟨s0, s1, s2, -, -, -, -⟩, ⟨t0, t1, t2, -, -, -, -⟩, x0⟩ := hw'
      go_simp
      try with_reducible rfl
    try simp only [Act.put, List.setIfInBounds_toArray, List.set_cons_zero, List.set_cons_succ]
    refine wpAnyH_take (i := 32) (oi := { dst := some 76, op := Op.pick (Operand.tmp 67) (Operand.tmp 75) (Operand.const (Value.bool false)), type := 4, pos := "law.go:32", after := #[{ on := 23, ground := Ground.data }, { on := 31, ground := Ground.data }, { on := 17, ground := Ground.guard }], guard := some (17, false) }) (v := ?_) rfl (by kernel_rfl) (by kernel_rfl) (by kernel_rfl) (fun _ _ _ h => h) (Or.inl ⟨by rfl, ?_⟩) hH4 ?_
    rotate_left
    · intro w' hw'
      obtain ⟨⟨s0, s1, s2, -, -, -, -⟩, ⟨t0, t1, t2, -, -, -, -⟩, x0⟩ := hw'
      go_simp
      try with_reducible rfl
    try simp only [Act.put, List.setIfInBounds_toArray, List.set_cons_zero, List.set_cons_succ]
    refine wpAnyH_take (i := 33) (oi := { dst := some 77, op := Op.pick (Operand.tmp 61) (Operand.const (Value.bool true)) (Operand.tmp 76), type := 4, pos := "law.go:32", after := #[{ on := 17, ground := Ground.data }, { on := 32, ground := Ground.data }, { on := 14, ground := Ground.guard }], guard := some (14, true) }) (v := ?_) rfl (by kernel_rfl) (by kernel_rfl) (by kernel_rfl) (fun _ _ _ h => h) (Or.inl ⟨by rfl, ?_⟩) hH4 ?_
    rotate_left
    · intro w' hw'
      obtain ⟨⟨s0, s1, s2, -, -, -, -⟩, ⟨t0, t1, t2, -, -, -, -⟩, x0⟩ := hw'
      go_simp
      try with_reducible rfl
    try simp only [Act.put, List.setIfInBounds_toArray, List.set_cons_zero, List.set_cons_succ]
    refine wpAnyH_take (i := 34) (oi := { dst := some 78, op := Op.pick (Operand.tmp 58) (Operand.tmp 77) (Operand.const (Value.bool false)), type := 4, pos := "law.go:32", after := #[{ on := 14, ground := Ground.data }, { on := 33, ground := Ground.data }], guard := none }) (v := ?_) rfl (by kernel_rfl) (by kernel_rfl) (by kernel_rfl) (fun _ _ _ h => h) (Or.inl ⟨by rfl, ?_⟩) hH4 ?_
    rotate_left
    · intro w' hw'
      obtain ⟨⟨s0, s1, s2, -, -, -, -⟩, ⟨t0, t1, t2, -, -, -, -⟩, x0⟩ := hw'
      go_simp
      try with_reducible rfl
    try simp only [Act.put, List.setIfInBounds_toArray, List.set_cons_zero, List.set_cons_succ]
    refine wpAnyH_take (i := 35) (oi := { dst := some 79, op := Op.move (Operand.tmp 78), type := 4, pos := "law.go:32", after := #[{ on := 34, ground := Ground.data }, { on := 25, ground := Ground.chain }], guard := none }) (v := ?_) rfl (by kernel_rfl) (by kernel_rfl) (by kernel_rfl) (fun _ _ _ h => h) (Or.inl ⟨by rfl, ?_⟩) hH4 ?_
    rotate_left
    · intro w' hw'
      obtain ⟨⟨s0, s1, s2, -, -, -, -⟩, ⟨t0, t1, t2, -, -, -, -⟩, x0⟩ := hw'
      go_simp
      try with_reducible rfl
    try simp only [Act.put, List.setIfInBounds_toArray, List.set_cons_zero, List.set_cons_succ]
    refine wpAnyH_ready (rs := [36]) (by kernel_rfl) (by simp) ?_
    refine AllReadyH.cons (o := { dst := some 80, op := Op.call { callee := Callee.value (Operand.func 19), args := #[], argTypes := #[] }, type := 4, pos := "law.go:32", after := #[{ on := 35, ground := Ground.chain }, { on := 35, ground := Ground.guard }], guard := some (35, true) }) rfl (fun K hK => ?_) AllReadyH.nil
    go_simp
    refine KW.out.mono ?_
    rintro e w10 ⟨rfl, b10⟩
    have b10' := hide (E8.out.bel.trans (b10.mono E8.out.bel.size))
    refine hK.out _ _ ⟨Q8.1.kept b10 Q8.1.lt, Q8.2.1.kept b10 Q8.2.1.lt, (b10.cell (p := ⟨r, 0, none⟩) E8.out.rw.lt).trans Q8.2.2⟩ (fun hH5 => ?_)
    clear hK
    try simp only [Act.put, List.setIfInBounds_toArray, List.set_cons_zero, List.set_cons_succ]
    refine wpAnyH_take (i := 37) (oi := { dst := some 81, op := Op.pick (Operand.tmp 79) (Operand.tmp 80) (Operand.const (Value.bool false)), type := 4, pos := "law.go:32", after := #[{ on := 35, ground := Ground.data }, { on := 36, ground := Ground.data }], guard := none }) (v := ?_) rfl (by kernel_rfl) (by kernel_rfl) (by kernel_rfl) (fun _ _ _ h => h) (Or.inl ⟨by rfl, ?_⟩) hH5 ?_
    rotate_left
    · intro w' hw'
      obtain ⟨⟨s0, s1, s2, -, -, -, -⟩, ⟨t0, t1, t2, -, -, -, -⟩, x0⟩ := hw'
      go_simp
      try with_reducible rfl
    try simp only [Act.put, List.setIfInBounds_toArray, List.set_cons_zero, List.set_cons_succ]
    refine wpAnyH_take (i := 38) (oi := { dst := some 6, op := Op.assign (Operand.tmp 81), type := 4, pos := "law.go:32", after := #[{ on := 37, ground := Ground.data }, { on := 36, ground := Ground.chain }, { on := 0, ground := Ground.phase }, { on := 1, ground := Ground.phase }, { on := 2, ground := Ground.phase }, { on := 3, ground := Ground.phase }, { on := 4, ground := Ground.phase }, { on := 5, ground := Ground.phase }, { on := 6, ground := Ground.phase }, { on := 7, ground := Ground.phase }, { on := 8, ground := Ground.phase }, { on := 9, ground := Ground.phase }, { on := 10, ground := Ground.phase }, { on := 11, ground := Ground.phase }, { on := 12, ground := Ground.phase }, { on := 13, ground := Ground.phase }, { on := 14, ground := Ground.phase }, { on := 15, ground := Ground.phase }, { on := 16, ground := Ground.phase }, { on := 17, ground := Ground.phase }, { on := 18, ground := Ground.phase }, { on := 19, ground := Ground.phase }, { on := 20, ground := Ground.phase }, { on := 21, ground := Ground.phase }, { on := 22, ground := Ground.phase }, { on := 23, ground := Ground.phase }, { on := 24, ground := Ground.phase }, { on := 25, ground := Ground.phase }, { on := 26, ground := Ground.phase }, { on := 27, ground := Ground.phase }, { on := 28, ground := Ground.phase }, { on := 29, ground := Ground.phase }, { on := 30, ground := Ground.phase }, { on := 31, ground := Ground.phase }, { on := 32, ground := Ground.phase }, { on := 33, ground := Ground.phase }, { on := 34, ground := Ground.phase }, { on := 35, ground := Ground.phase }, { on := 36, ground := Ground.phase }, { on := 37, ground := Ground.phase }], guard := none }) (v := ?_) rfl (by kernel_rfl) (by kernel_rfl) (by kernel_rfl) (fun _ _ _ h => h) (Or.inl ⟨by rfl, ?_⟩) hH5 ?_
    rotate_left
    · intro w' hw'
      obtain ⟨⟨s0, s1, s2, -, -, -, -⟩, ⟨t0, t1, t2, -, -, -, -⟩, x0⟩ := hw'
      go_simp
      try with_reducible rfl
    try simp only [Act.put, List.setIfInBounds_toArray, List.set_cons_zero, List.set_cons_succ]
    refine wpAnyH_done (by kernel_rfl) ?_ _
    refine NoPanic.normal ?_
    go_wp2_with fail
    go_ret
    exact ⟨rfl, b10'.out⟩
end Go.Proofs.YtpopkoedeckfoaaDoor
