/-
  The walk of StampGets.
-/
import Derived.Test.YtpopkoedeckfoaaDoorST
import Derived.Deep.Cut
import Derived.Deep.RegionHeld3
namespace Go.Proofs.YtpopkoedeckfoaaDoor
open Go.RowKit
set_option linter.unusedVariables false
set_option linter.unusedSimpArgs false

set_option maxHeartbeats 4000000 in
theorem gets_walk0 (a0 : Option Addr) (len0 cap0 nb : Nat) (lb : List Int) (n l d k0 : Int) (w : World) (ht : Tab w) (HB : Has w a0 nb cap0 lb) (hnb : nb ≤ 100) (hle0 : len0 ≤ cap0) (hcb0 : cap0 ≤ maxLen) (ek : (if (100 : Int) < (len0 : Int) then 100 else (len0 : Int)) = (nb : Int)) (wk : (Lit.int .i64 k0).wf = true) :
    Calls Tryd.prog 4 #[.slice a0 len0 cap0, .agg #[.int .i64 n, .int .i64 l, .int .i64 d], .int .i64 k0] w fun e w' => e = .returned (.bool true) ∧ Below w.heap.size w w' := by
  have hle1 : (nb : Int) ≤ (cap0 : Int) := by have := HB.le; omega
  have hnb2 : (nb : Int) ≤ 100 := by omega
  unfold maxLen at hcb0
  obtain ⟨k, gk, G⟩ := among_ex k0 20 20 (by omega) wk (by omega) (by omega)
  replace G := hide G
  have hpos := hide ht.pos
  have hlb : Hid (lb.length = nb) := HB.hlen
  have hap : Hid (0 < nb → ∀ b off, a0 = some ⟨b, off, none⟩ → b < w.heap.size) := fun h0 b off e => by
    obtain ⟨b', off', e', h1, _⟩ := HB.cells h0
    rw [e] at e'
    cases e'
    exact h1
  have B0 : Hid (Below w.heap.size w (w.alloc (.cells #[.int .i64 n, .int .i64 l, .int .i64 d] 23))) := (Below.refl _ w).alloc (Nat.le_refl _) _
  have S0 := hide (Box3.new w (.int .i64 n) (.int .i64 l) (.int .i64 d) 23)
  have HB0 := hide (HB.kept B0.out (Nat.le_refl _))
  have N := hide (newRd _ w.heap.size B0.out.size a0 nb cap0 lb HB0.out (by omega))
  replace ht := hide ht
  clear HB wk
  go_enter Tryd.func4, Tryd.ntmps4
  go_wp2_with fail
  refine N.out.mono ?_
  rintro e w1 ⟨q, v, rfl, b1, R1, hn1⟩
  have b1' := hide (B0.out.trans (b1.mono B0.out.size))
  have S1 := hide ((S0.out.kept b1 S0.out.lt).kept ((Below.refl w1.heap.size w1).alloc (Nat.le_refl _) (.cells #[.slice a0 nb cap0, .int .i64 0] 49)) (Nat.lt_of_lt_of_le S0.out.lt b1.size))
  have E1 := hide (QB.start R1 (HB0.out.kept b1 (Nat.le_refl _)) (ht.out.kept b1'.out hpos.out) b1'.out hpos.out hap.out)
  have f1 : Hid (w.heap.size ≠ q) := by have := hn1 q (.inl rfl); have := S0.out.lt; show _ ≠ _; omega
  have f2 : Hid (w.heap.size ≠ w1.heap.size) := by have := S0.out.lt; have := b1.size; show _ ≠ _; omega
  clear N R1 hn1 b1 S0 B0 HB0 b1'
  have P1 := hide (getR_any E1.out.rd k (by omega))
  rw [hlb.out] at P1
  have P2 := hide (fun (wx : World) (h : Ref wx w.heap.size w1.heap.size a0 nb cap0 0) (H : Has wx a0 nb cap0 lb) => getRf_any h H hap.out (by omega) k (by omega))
  obtain ⟨P, hP⟩ : ∃ P, (if k ≤ 8 * nb then k else 0) = P := ⟨_, rfl⟩
  rw [hP] at P1
  simp only [hP] at P2
  have hP8 : P ≤ 8 * nb := by rw [← hP]; split <;> omega
  replace hP := hide hP
  replace P2 := hide P2
  go_wp2_with fail
  refine (G.out _).mono ?_
  rintro e wq ⟨rfl, rfl⟩
  go_wp2_with fail
  refine P1.out.mono ?_
  rintro e w2 ⟨x1, y1, rfl, R2, b2⟩
  have E2 := hide (E1.out.getq b2 R2)
  have S2 := hide (S1.out.but b2 f1.out)
  clear P1 R2 b2 S1 E1 G
  go_wp2_with fail
  refine (P2.out _ E2.out.rf E2.out.H).mono ?_
  rintro e w3 ⟨x2, y2, rfl, R3, b3⟩
  have E3 := hide (E2.out.getr b3 R3)
  have S3 := hide (S2.out.but b3 f2.out)
  clear P2 R3 b3 S2 E2
  generalize w1.heap.size = r at *
  have s0 := S3.out.c0
  have s1 := S3.out.c1
  have s2 := S3.out.c2
  cases hok : okSI n l d
  · have GN := hide (getS_no E3.out.rd E3.out.t hpos.out n l d hok)
    go_wp2_with fail
    refine GN.out.mono ?_
    rintro e w4 ⟨rfl, R4, b4⟩
    have S4 := hide (S3.out.but b4 f1.out)
    have E4 := hide (E3.out.getq b4 R4)
    clear GN E3 S3 b4 R4
    have E4a := hide (E4.out.below ((Below.refl w4.heap.size w4).alloc (Nat.le_refl _) (.cells #[.int .i64 0, .int .i64 0, .int .i64 0] 23)))
    have S4a := hide (S4.out.kept ((Below.refl w4.heap.size w4).alloc (Nat.le_refl _) (.cells #[.int .i64 0, .int .i64 0, .int .i64 0] 23)) S4.out.lt)
    have X4 := hide (Box3.new w4 (.int .i64 0) (.int .i64 0) (.int .i64 0) 23)
    have f9 : Hid (w4.heap.size ≠ r) := by have := E4.out.rf.lt; show _ ≠ _; omega
    have RN := hide (rgetS_no E4a.out.rf E4a.out.H hap.out (by omega) hP8 n l d hok)
    clear E4 S4 s0 s1 s2
    have s0 := S4a.out.c0
    have s1 := S4a.out.c1
    have s2 := S4a.out.c2
    go_wp2_with fail
    refine RN.out.mono ?_
    rintro e w5 ⟨rfl, ⟨P3, R5⟩, b5⟩
    have E5 := hide (E4a.out.getr b5 R5)
    clear RN E4a R5
    have X5 := hide (X4.out.but b5 f9.out)
    have X6 := hide (X5.out.kept ((Below.refl w5.heap.size w5).alloc (Nat.le_refl _) (.cells #[.int .i64 0, .int .i64 0, .int .i64 0] 36)) X5.out.lt)
    have Y6 := hide (Box3.new w5 (.int .i64 0) (.int .i64 0) (.int .i64 0) 36)
    have E6 := hide (E5.out.below ((Below.refl w5.heap.size w5).alloc (Nat.le_refl _) (.cells #[.int .i64 0, .int .i64 0, .int .i64 0] 36)))
    clear X4 X5 E5 S4a s0 s1 s2 b5
    go_upto_region 8 with fail
    have heq : ∀ w, (binOp .eql 36 (.agg #[.int .i64 0, .int .i64 0, .int .i64 0]) (.agg #[.int .i64 0, .int .i64 0, .int .i64 0])).run Tryd.prog w = .ok (.bool true) w := fun w => by rw [run_eql36]; simp
    generalize w4.heap.size = g9 at *
    generalize w5.alloc (.cells #[.int .i64 0, .int .i64 0, .int .i64 0] 36) = w6 at *
    generalize w5.heap.size = g12 at *
    have KW := hide (works_any _ E6.out.drew.t)
    refine wp_region_noPanic ?_
    refine wp_region_held_drew (S := fun w' => Box3 w' g9 (.int .i64 0) (.int .i64 0) (.int .i64 0) ∧ Box3 w' g12 (.int .i64 0) (.int .i64 0) (.int .i64 0) ∧ w'.cell? ⟨r, 1, none⟩ = some (.int .i64 (P3 : Int))) (by kernel_rfl) ⟨X6.out.drew, Y6.out.drew, E6.out.rf.c1⟩ (fun hH0 => ?_)
    refine wpAnyH_take (i := 0) (oi := { dst := some 53, op := Op.fieldAddr 23 (Operand.tmp 9) 0, type := 0, pos := "law.go:44", after := #[], guard := none }) (v := ?_) rfl (by kernel_rfl) (by kernel_rfl) (by kernel_rfl) (fun _ _ _ h => h) (Or.inl ⟨by rfl, ?_⟩) hH0 ?_
    rotate_left
    · intro w' hw'
      obtain ⟨⟨s0, s1, s2, -, -, -, -⟩, ⟨t0, t1, t2, -, -, -, -⟩, x0⟩ := hw'
      go_simp
      try with_reducible rfl
    try simp only [Act.put, List.setIfInBounds_toArray, List.set_cons_zero, List.set_cons_succ]
    refine wpAnyH_take (i := 1) (oi := { dst := some 54, op := Op.load 3 (Operand.tmp 53), type := 3, pos := "law.go:44", after := #[{ on := 0, ground := Ground.data }], guard := none }) (v := ?_) rfl (by kernel_rfl) (by kernel_rfl) (by kernel_rfl) (fun _ _ _ h => h) (Or.inl ⟨by rfl, ?_⟩) hH0 ?_
    rotate_left
    · intro w' hw'
      obtain ⟨⟨s0, s1, s2, -, -, -, -⟩, ⟨t0, t1, t2, -, -, -, -⟩, x0⟩ := hw'
      go_simp
      try with_reducible rfl
    try simp only [Act.put, List.setIfInBounds_toArray, List.set_cons_zero, List.set_cons_succ]
    refine wpAnyH_take (i := 2) (oi := { dst := some 55, op := Op.fieldAddr 23 (Operand.tmp 9) 1, type := 0, pos := "law.go:44", after := #[], guard := none }) (v := ?_) rfl (by kernel_rfl) (by kernel_rfl) (by kernel_rfl) (fun _ _ _ h => h) (Or.inl ⟨by rfl, ?_⟩) hH0 ?_
    rotate_left
    · intro w' hw'
      obtain ⟨⟨s0, s1, s2, -, -, -, -⟩, ⟨t0, t1, t2, -, -, -, -⟩, x0⟩ := hw'
      go_simp
      try with_reducible rfl
    try simp only [Act.put, List.setIfInBounds_toArray, List.set_cons_zero, List.set_cons_succ]
    refine wpAnyH_take (i := 3) (oi := { dst := some 56, op := Op.load 3 (Operand.tmp 55), type := 3, pos := "law.go:44", after := #[{ on := 2, ground := Ground.data }], guard := none }) (v := ?_) rfl (by kernel_rfl) (by kernel_rfl) (by kernel_rfl) (fun _ _ _ h => h) (Or.inl ⟨by rfl, ?_⟩) hH0 ?_
    rotate_left
    · intro w' hw'
      obtain ⟨⟨s0, s1, s2, -, -, -, -⟩, ⟨t0, t1, t2, -, -, -, -⟩, x0⟩ := hw'
      go_simp
      try with_reducible rfl
    try simp only [Act.put, List.setIfInBounds_toArray, List.set_cons_zero, List.set_cons_succ]
    refine wpAnyH_take (i := 4) (oi := { dst := some 57, op := Op.fieldAddr 23 (Operand.tmp 9) 2, type := 0, pos := "law.go:44", after := #[], guard := none }) (v := ?_) rfl (by kernel_rfl) (by kernel_rfl) (by kernel_rfl) (fun _ _ _ h => h) (Or.inl ⟨by rfl, ?_⟩) hH0 ?_
    rotate_left
    · intro w' hw'
      obtain ⟨⟨s0, s1, s2, -, -, -, -⟩, ⟨t0, t1, t2, -, -, -, -⟩, x0⟩ := hw'
      go_simp
      try with_reducible rfl
    try simp only [Act.put, List.setIfInBounds_toArray, List.set_cons_zero, List.set_cons_succ]
    refine wpAnyH_take (i := 5) (oi := { dst := some 58, op := Op.load 3 (Operand.tmp 57), type := 3, pos := "law.go:44", after := #[{ on := 4, ground := Ground.data }], guard := none }) (v := ?_) rfl (by kernel_rfl) (by kernel_rfl) (by kernel_rfl) (fun _ _ _ h => h) (Or.inl ⟨by rfl, ?_⟩) hH0 ?_
    rotate_left
    · intro w' hw'
      obtain ⟨⟨s0, s1, s2, -, -, -, -⟩, ⟨t0, t1, t2, -, -, -, -⟩, x0⟩ := hw'
      go_simp
      try with_reducible rfl
    try simp only [Act.put, List.setIfInBounds_toArray, List.set_cons_zero, List.set_cons_succ]
    refine wpAnyH_take (i := 6) (oi := { dst := some 59, op := Op.build 36 #[(0, Operand.tmp 54), (1, Operand.tmp 56), (2, Operand.tmp 58)], type := 36, pos := "law.go:44", after := #[{ on := 1, ground := Ground.data }, { on := 3, ground := Ground.data }, { on := 5, ground := Ground.data }], guard := none }) (v := ?_) rfl (by kernel_rfl) (by kernel_rfl) (by kernel_rfl) (fun _ _ _ h => h) (Or.inl ⟨by rfl, ?_⟩) hH0 ?_
    rotate_left
    · intro w' hw'
      obtain ⟨⟨s0, s1, s2, -, -, -, -⟩, ⟨t0, t1, t2, -, -, -, -⟩, x0⟩ := hw'
      go_simp
      try with_reducible rfl
    try simp only [Act.put, List.setIfInBounds_toArray, List.set_cons_zero, List.set_cons_succ]
    refine wpAnyH_take (i := 7) (oi := { dst := some 60, op := Op.load 36 (Operand.tmp 12), type := 36, pos := "law.go:44", after := #[], guard := none }) (v := ?_) rfl (by kernel_rfl) (by kernel_rfl) (by kernel_rfl) (fun _ _ _ h => h) (Or.inl ⟨by rfl, ?_⟩) hH0 ?_
    rotate_left
    · intro w' hw'
      obtain ⟨⟨s0, s1, s2, -, -, -, -⟩, ⟨t0, t1, t2, -, -, -, -⟩, x0⟩ := hw'
      go_simp
      try with_reducible rfl
    try simp only [Act.put, List.setIfInBounds_toArray, List.set_cons_zero, List.set_cons_succ]
    refine wpAnyH_take (i := 8) (oi := { dst := some 61, op := Op.binOp BinOp.eql 36 (Operand.tmp 59) (Operand.tmp 60) 36, type := 4, pos := "law.go:44", after := #[{ on := 6, ground := Ground.data }, { on := 7, ground := Ground.data }], guard := none }) (v := ?_) rfl (by kernel_rfl) (by kernel_rfl) (by kernel_rfl) (fun _ _ _ h => h) (Or.inl ⟨by rfl, ?_⟩) hH0 ?_
    rotate_left
    · intro w' hw'
      obtain ⟨⟨s0, s1, s2, -, -, -, -⟩, ⟨t0, t1, t2, -, -, -, -⟩, x0⟩ := hw'
      go_simp
      try with_reducible rfl
    try simp only [Act.put, List.setIfInBounds_toArray, List.set_cons_zero, List.set_cons_succ]
    refine wpAnyH_take (i := 9) (oi := { dst := some 62, op := Op.move (Operand.tmp 61), type := 4, pos := "law.go:44", after := #[{ on := 8, ground := Ground.data }], guard := none }) (v := ?_) rfl (by kernel_rfl) (by kernel_rfl) (by kernel_rfl) (fun _ _ _ h => h) (Or.inl ⟨by rfl, ?_⟩) hH0 ?_
    rotate_left
    · intro w' hw'
      obtain ⟨⟨s0, s1, s2, -, -, -, -⟩, ⟨t0, t1, t2, -, -, -, -⟩, x0⟩ := hw'
      go_simp
      try with_reducible rfl
    try simp only [Act.put, List.setIfInBounds_toArray, List.set_cons_zero, List.set_cons_succ]
    refine wpAnyH_take (i := 10) (oi := { dst := some 63, op := Op.move (Operand.tmp 10), type := 3, pos := "law.go:44", after := #[{ on := 9, ground := Ground.guard }], guard := some (9, true) }) (v := ?_) rfl (by kernel_rfl) (by kernel_rfl) (by kernel_rfl) (fun _ _ _ h => h) (Or.inl ⟨by rfl, ?_⟩) hH0 ?_
    rotate_left
    · intro w' hw'
      obtain ⟨⟨s0, s1, s2, -, -, -, -⟩, ⟨t0, t1, t2, -, -, -, -⟩, x0⟩ := hw'
      go_simp
      try with_reducible rfl
    try simp only [Act.put, List.setIfInBounds_toArray, List.set_cons_zero, List.set_cons_succ]
    refine wpAnyH_take (i := 11) (oi := { dst := some 64, op := Op.move (Operand.tmp 13), type := 3, pos := "law.go:44", after := #[{ on := 9, ground := Ground.guard }], guard := some (9, true) }) (v := ?_) rfl (by kernel_rfl) (by kernel_rfl) (by kernel_rfl) (fun _ _ _ h => h) (Or.inl ⟨by rfl, ?_⟩) hH0 ?_
    rotate_left
    · intro w' hw'
      obtain ⟨⟨s0, s1, s2, -, -, -, -⟩, ⟨t0, t1, t2, -, -, -, -⟩, x0⟩ := hw'
      go_simp
      try with_reducible rfl
    try simp only [Act.put, List.setIfInBounds_toArray, List.set_cons_zero, List.set_cons_succ]
    refine wpAnyH_take (i := 12) (oi := { dst := some 65, op := Op.binOp BinOp.eql 3 (Operand.tmp 63) (Operand.tmp 64) 3, type := 4, pos := "law.go:44", after := #[{ on := 10, ground := Ground.data }, { on := 11, ground := Ground.data }, { on := 9, ground := Ground.guard }], guard := some (9, true) }) (v := ?_) rfl (by kernel_rfl) (by kernel_rfl) (by kernel_rfl) (fun _ _ _ h => h) (Or.inl ⟨by rfl, ?_⟩) hH0 ?_
    rotate_left
    · intro w' hw'
      obtain ⟨⟨s0, s1, s2, -, -, -, -⟩, ⟨t0, t1, t2, -, -, -, -⟩, x0⟩ := hw'
      go_simp
      try with_reducible rfl
    try simp only [Act.put, List.setIfInBounds_toArray, List.set_cons_zero, List.set_cons_succ]
    refine wpAnyH_take (i := 13) (oi := { dst := some 66, op := Op.pick (Operand.tmp 62) (Operand.tmp 65) (Operand.const (Value.bool false)), type := 4, pos := "law.go:44", after := #[{ on := 9, ground := Ground.data }, { on := 12, ground := Ground.data }], guard := none }) (v := ?_) rfl (by kernel_rfl) (by kernel_rfl) (by kernel_rfl) (fun _ _ _ h => h) (Or.inl ⟨by rfl, ?_⟩) hH0 ?_
    rotate_left
    · intro w' hw'
      obtain ⟨⟨s0, s1, s2, -, -, -, -⟩, ⟨t0, t1, t2, -, -, -, -⟩, x0⟩ := hw'
      go_simp
      try with_reducible rfl
    try simp only [Act.put, List.setIfInBounds_toArray, List.set_cons_zero, List.set_cons_succ]
    refine wpAnyH_take (i := 14) (oi := { dst := some 67, op := Op.move (Operand.tmp 66), type := 4, pos := "law.go:44", after := #[{ on := 13, ground := Ground.data }, { on := 9, ground := Ground.chain }], guard := none }) (v := ?_) rfl (by kernel_rfl) (by kernel_rfl) (by kernel_rfl) (fun _ _ _ h => h) (Or.inl ⟨by rfl, ?_⟩) hH0 ?_
    rotate_left
    · intro w' hw'
      obtain ⟨⟨s0, s1, s2, -, -, -, -⟩, ⟨t0, t1, t2, -, -, -, -⟩, x0⟩ := hw'
      go_simp
      try with_reducible rfl
    try simp only [Act.put, List.setIfInBounds_toArray, List.set_cons_zero, List.set_cons_succ]
    refine wpAnyH_take (i := 15) (oi := { dst := some 68, op := Op.move (Operand.tmp 11), type := 31, pos := "law.go:44", after := #[{ on := 14, ground := Ground.guard }], guard := some (14, true) }) (v := ?_) rfl (by kernel_rfl) (by kernel_rfl) (by kernel_rfl) (fun _ _ _ h => h) (Or.inl ⟨by rfl, ?_⟩) hH0 ?_
    rotate_left
    · intro w' hw'
      obtain ⟨⟨s0, s1, s2, -, -, -, -⟩, ⟨t0, t1, t2, -, -, -, -⟩, x0⟩ := hw'
      go_simp
      try with_reducible rfl
    try simp only [Act.put, List.setIfInBounds_toArray, List.set_cons_zero, List.set_cons_succ]
    refine wpAnyH_take (i := 16) (oi := { dst := some 69, op := Op.move (Operand.tmp 14), type := 31, pos := "law.go:44", after := #[{ on := 14, ground := Ground.guard }], guard := some (14, true) }) (v := ?_) rfl (by kernel_rfl) (by kernel_rfl) (by kernel_rfl) (fun _ _ _ h => h) (Or.inl ⟨by rfl, ?_⟩) hH0 ?_
    rotate_left
    · intro w' hw'
      obtain ⟨⟨s0, s1, s2, -, -, -, -⟩, ⟨t0, t1, t2, -, -, -, -⟩, x0⟩ := hw'
      go_simp
      try with_reducible rfl
    try simp only [Act.put, List.setIfInBounds_toArray, List.set_cons_zero, List.set_cons_succ]
    refine wpAnyH_take (i := 17) (oi := { dst := some 70, op := Op.binOp BinOp.eql 31 (Operand.tmp 68) (Operand.tmp 69) 31, type := 4, pos := "law.go:44", after := #[{ on := 15, ground := Ground.data }, { on := 16, ground := Ground.data }, { on := 14, ground := Ground.guard }], guard := some (14, true) }) (v := ?_) rfl (by kernel_rfl) (by kernel_rfl) (by kernel_rfl) (fun _ _ _ h => h) (Or.inl ⟨by rfl, ?_⟩) hH0 ?_
    rotate_left
    · intro w' hw'
      obtain ⟨⟨s0, s1, s2, -, -, -, -⟩, ⟨t0, t1, t2, -, -, -, -⟩, x0⟩ := hw'
      go_simp
      try with_reducible rfl
    try simp only [Act.put, List.setIfInBounds_toArray, List.set_cons_zero, List.set_cons_succ]
    refine wpAnyH_take (i := 18) (oi := { dst := some 71, op := Op.pick (Operand.tmp 67) (Operand.tmp 70) (Operand.const (Value.bool false)), type := 4, pos := "law.go:44", after := #[{ on := 14, ground := Ground.data }, { on := 17, ground := Ground.data }], guard := none }) (v := ?_) rfl (by kernel_rfl) (by kernel_rfl) (by kernel_rfl) (fun _ _ _ h => h) (Or.inl ⟨by rfl, ?_⟩) hH0 ?_
    rotate_left
    · intro w' hw'
      obtain ⟨⟨s0, s1, s2, -, -, -, -⟩, ⟨t0, t1, t2, -, -, -, -⟩, x0⟩ := hw'
      go_simp
      try with_reducible rfl
    try simp only [Act.put, List.setIfInBounds_toArray, List.set_cons_zero, List.set_cons_succ]
    refine wpAnyH_take (i := 19) (oi := { dst := some 72, op := Op.move (Operand.tmp 71), type := 4, pos := "law.go:44", after := #[{ on := 18, ground := Ground.data }, { on := 14, ground := Ground.chain }], guard := none }) (v := ?_) rfl (by kernel_rfl) (by kernel_rfl) (by kernel_rfl) (fun _ _ _ h => h) (Or.inl ⟨by rfl, ?_⟩) hH0 ?_
    rotate_left
    · intro w' hw'
      obtain ⟨⟨s0, s1, s2, -, -, -, -⟩, ⟨t0, t1, t2, -, -, -, -⟩, x0⟩ := hw'
      go_simp
      try with_reducible rfl
    try simp only [Act.put, List.setIfInBounds_toArray, List.set_cons_zero, List.set_cons_succ]
    refine wpAnyH_take (i := 20) (oi := { dst := some 73, op := Op.move (Operand.tmp 11), type := 31, pos := "law.go:44", after := #[{ on := 19, ground := Ground.guard }], guard := some (19, true) }) (v := ?_) rfl (by kernel_rfl) (by kernel_rfl) (by kernel_rfl) (fun _ _ _ h => h) (Or.inl ⟨by rfl, ?_⟩) hH0 ?_
    rotate_left
    · intro w' hw'
      obtain ⟨⟨s0, s1, s2, -, -, -, -⟩, ⟨t0, t1, t2, -, -, -, -⟩, x0⟩ := hw'
      go_simp
      try with_reducible rfl
    try simp only [Act.put, List.setIfInBounds_toArray, List.set_cons_zero, List.set_cons_succ]
    refine wpAnyH_take (i := 21) (oi := { dst := some 74, op := Op.binOp BinOp.neq 31 (Operand.tmp 73) (Operand.const (Value.int IntKind.i64 0)) 31, type := 4, pos := "law.go:44", after := #[{ on := 20, ground := Ground.data }, { on := 19, ground := Ground.guard }], guard := some (19, true) }) (v := ?_) rfl (by kernel_rfl) (by kernel_rfl) (by kernel_rfl) (fun _ _ _ h => h) (Or.inl ⟨by rfl, ?_⟩) hH0 ?_
    rotate_left
    · intro w' hw'
      obtain ⟨⟨s0, s1, s2, -, -, -, -⟩, ⟨t0, t1, t2, -, -, -, -⟩, x0⟩ := hw'
      go_simp
      try with_reducible rfl
    try simp only [Act.put, List.setIfInBounds_toArray, List.set_cons_zero, List.set_cons_succ]
    refine wpAnyH_take (i := 22) (oi := { dst := some 75, op := Op.move (Operand.tmp 74), type := 4, pos := "law.go:44", after := #[{ on := 21, ground := Ground.data }, { on := 19, ground := Ground.chain }, { on := 19, ground := Ground.guard }], guard := some (19, true) }) (v := ?_) rfl (by kernel_rfl) (by kernel_rfl) (by kernel_rfl) (fun _ _ _ h => h) (Or.inl ⟨by rfl, ?_⟩) hH0 ?_
    rotate_left
    · intro w' hw'
      obtain ⟨⟨s0, s1, s2, -, -, -, -⟩, ⟨t0, t1, t2, -, -, -, -⟩, x0⟩ := hw'
      go_simp
      try with_reducible rfl
    try simp only [Act.put, List.setIfInBounds_toArray, List.set_cons_zero, List.set_cons_succ]
    refine wpAnyH_take (i := 23) (oi := { dst := some 76, op := Op.move (Operand.tmp 7), type := 45, pos := "law.go:44", after := #[{ on := 22, ground := Ground.guard }], guard := some (22, false) }) (v := undef) rfl (by kernel_rfl) (by kernel_rfl) (by kernel_rfl) (fun _ _ _ h => h) (Or.inr ⟨by rfl, rfl⟩) hH0 ?_
    try simp only [Act.put, List.setIfInBounds_toArray, List.set_cons_zero, List.set_cons_succ]
    refine wpAnyH_take (i := 24) (oi := { dst := some 77, op := Op.call { callee := Callee.value (Operand.func 25), args := #[Operand.tmp 76], argTypes := #[45] }, type := 3, pos := "law.go:44", after := #[{ on := 23, ground := Ground.data }, { on := 22, ground := Ground.chain }, { on := 22, ground := Ground.guard }], guard := some (22, false) }) (v := undef) rfl (by kernel_rfl) (by kernel_rfl) (by kernel_rfl) (fun _ _ _ h => h) (Or.inr ⟨by rfl, rfl⟩) hH0 ?_
    try simp only [Act.put, List.setIfInBounds_toArray, List.set_cons_zero, List.set_cons_succ]
    refine wpAnyH_take (i := 25) (oi := { dst := some 78, op := Op.move (Operand.tmp 8), type := 47, pos := "law.go:44", after := #[{ on := 22, ground := Ground.guard }], guard := some (22, false) }) (v := undef) rfl (by kernel_rfl) (by kernel_rfl) (by kernel_rfl) (fun _ _ _ h => h) (Or.inr ⟨by rfl, rfl⟩) hH0 ?_
    try simp only [Act.put, List.setIfInBounds_toArray, List.set_cons_zero, List.set_cons_succ]
    refine wpAnyH_take (i := 26) (oi := { dst := some 79, op := Op.nilCheck (Operand.tmp 78), type := 0, pos := "law.go:44", after := #[{ on := 25, ground := Ground.data }, { on := 22, ground := Ground.guard }], guard := some (22, false) }) (v := undef) rfl (by kernel_rfl) (by kernel_rfl) (by kernel_rfl) (fun _ _ _ h => h) (Or.inr ⟨by rfl, rfl⟩) hH0 ?_
    try simp only [Act.put, List.setIfInBounds_toArray, List.set_cons_zero, List.set_cons_succ]
    refine wpAnyH_take (i := 27) (oi := { dst := some 80, op := Op.fieldAddr 49 (Operand.tmp 79) 1, type := 0, pos := "law.go:44", after := #[{ on := 26, ground := Ground.data }, { on := 22, ground := Ground.guard }], guard := some (22, false) }) (v := undef) rfl (by kernel_rfl) (by kernel_rfl) (by kernel_rfl) (fun _ _ _ h => h) (Or.inr ⟨by rfl, rfl⟩) hH0 ?_
    try simp only [Act.put, List.setIfInBounds_toArray, List.set_cons_zero, List.set_cons_succ]
    refine wpAnyH_take (i := 28) (oi := { dst := some 81, op := Op.load 3 (Operand.tmp 80), type := 3, pos := "law.go:44", after := #[{ on := 27, ground := Ground.data }, { on := 22, ground := Ground.guard }], guard := some (22, false) }) (v := undef) rfl (by kernel_rfl) (by kernel_rfl) (by kernel_rfl) (fun _ _ _ h => h) (Or.inr ⟨by rfl, rfl⟩) hH0 ?_
    try simp only [Act.put, List.setIfInBounds_toArray, List.set_cons_zero, List.set_cons_succ]
    refine wpAnyH_take (i := 29) (oi := { dst := some 82, op := Op.binOp BinOp.eql 3 (Operand.tmp 77) (Operand.tmp 81) 3, type := 4, pos := "law.go:44", after := #[{ on := 24, ground := Ground.data }, { on := 28, ground := Ground.data }, { on := 22, ground := Ground.guard }], guard := some (22, false) }) (v := undef) rfl (by kernel_rfl) (by kernel_rfl) (by kernel_rfl) (fun _ _ _ h => h) (Or.inr ⟨by rfl, rfl⟩) hH0 ?_
    try simp only [Act.put, List.setIfInBounds_toArray, List.set_cons_zero, List.set_cons_succ]
    refine wpAnyH_take (i := 30) (oi := { dst := some 83, op := Op.pick (Operand.tmp 75) (Operand.const (Value.bool true)) (Operand.tmp 82), type := 4, pos := "law.go:44", after := #[{ on := 22, ground := Ground.data }, { on := 29, ground := Ground.data }, { on := 19, ground := Ground.guard }], guard := some (19, true) }) (v := ?_) rfl (by kernel_rfl) (by kernel_rfl) (by kernel_rfl) (fun _ _ _ h => h) (Or.inl ⟨by rfl, ?_⟩) hH0 ?_
    rotate_left
    · intro w' hw'
      obtain ⟨⟨s0, s1, s2, -, -, -, -⟩, ⟨t0, t1, t2, -, -, -, -⟩, x0⟩ := hw'
      go_simp
      try with_reducible rfl
    try simp only [Act.put, List.setIfInBounds_toArray, List.set_cons_zero, List.set_cons_succ]
    refine wpAnyH_take (i := 31) (oi := { dst := some 84, op := Op.pick (Operand.tmp 72) (Operand.tmp 83) (Operand.const (Value.bool false)), type := 4, pos := "law.go:44", after := #[{ on := 19, ground := Ground.data }, { on := 30, ground := Ground.data }], guard := none }) (v := ?_) rfl (by kernel_rfl) (by kernel_rfl) (by kernel_rfl) (fun _ _ _ h => h) (Or.inl ⟨by rfl, ?_⟩) hH0 ?_
    rotate_left
    · intro w' hw'
      obtain ⟨⟨s0, s1, s2, -, -, -, -⟩, ⟨t0, t1, t2, -, -, -, -⟩, x0⟩ := hw'
      go_simp
      try with_reducible rfl
    try simp only [Act.put, List.setIfInBounds_toArray, List.set_cons_zero, List.set_cons_succ]
    refine wpAnyH_take (i := 32) (oi := { dst := some 85, op := Op.move (Operand.tmp 84), type := 4, pos := "law.go:44", after := #[{ on := 31, ground := Ground.data }, { on := 24, ground := Ground.chain }], guard := none }) (v := ?_) rfl (by kernel_rfl) (by kernel_rfl) (by kernel_rfl) (fun _ _ _ h => h) (Or.inl ⟨by rfl, ?_⟩) hH0 ?_
    rotate_left
    · intro w' hw'
      obtain ⟨⟨s0, s1, s2, -, -, -, -⟩, ⟨t0, t1, t2, -, -, -, -⟩, x0⟩ := hw'
      go_simp
      try with_reducible rfl
    try simp only [Act.put, List.setIfInBounds_toArray, List.set_cons_zero, List.set_cons_succ]
    refine wpAnyH_ready (rs := [33]) (by kernel_rfl) (by simp) ?_
    refine AllReadyH.cons (o := { dst := some 86, op := Op.call { callee := Callee.value (Operand.func 19), args := #[], argTypes := #[] }, type := 4, pos := "law.go:44", after := #[{ on := 32, ground := Ground.chain }, { on := 32, ground := Ground.guard }], guard := some (32, true) }) rfl (fun K hK => ?_) AllReadyH.nil
    go_simp
    refine KW.out.mono ?_
    rintro e w8 ⟨rfl, b8⟩
    have b8' := hide (E6.out.drew.bel.trans (b8.mono E6.out.bel.size))
    refine hK.out _ _ ⟨X6.out.drew.kept b8 X6.out.lt, Y6.out.drew.kept b8 Y6.out.lt, (b8.cell (p := ⟨r, 1, none⟩) E6.out.rf.lt).trans E6.out.rf.c1⟩ (fun hH1 => ?_)
    clear hK
    try simp only [Act.put, List.setIfInBounds_toArray, List.set_cons_zero, List.set_cons_succ]
    refine wpAnyH_take (i := 34) (oi := { dst := some 87, op := Op.pick (Operand.tmp 85) (Operand.tmp 86) (Operand.const (Value.bool false)), type := 4, pos := "law.go:44", after := #[{ on := 32, ground := Ground.data }, { on := 33, ground := Ground.data }], guard := none }) (v := ?_) rfl (by kernel_rfl) (by kernel_rfl) (by kernel_rfl) (fun _ _ _ h => h) (Or.inl ⟨by rfl, ?_⟩) hH1 ?_
    rotate_left
    · intro w' hw'
      obtain ⟨⟨s0, s1, s2, -, -, -, -⟩, ⟨t0, t1, t2, -, -, -, -⟩, x0⟩ := hw'
      go_simp
      try with_reducible rfl
    try simp only [Act.put, List.setIfInBounds_toArray, List.set_cons_zero, List.set_cons_succ]
    refine wpAnyH_take (i := 35) (oi := { dst := some 6, op := Op.assign (Operand.tmp 87), type := 4, pos := "law.go:44", after := #[{ on := 34, ground := Ground.data }, { on := 33, ground := Ground.chain }, { on := 0, ground := Ground.phase }, { on := 1, ground := Ground.phase }, { on := 2, ground := Ground.phase }, { on := 3, ground := Ground.phase }, { on := 4, ground := Ground.phase }, { on := 5, ground := Ground.phase }, { on := 6, ground := Ground.phase }, { on := 7, ground := Ground.phase }, { on := 8, ground := Ground.phase }, { on := 9, ground := Ground.phase }, { on := 10, ground := Ground.phase }, { on := 11, ground := Ground.phase }, { on := 12, ground := Ground.phase }, { on := 13, ground := Ground.phase }, { on := 14, ground := Ground.phase }, { on := 15, ground := Ground.phase }, { on := 16, ground := Ground.phase }, { on := 17, ground := Ground.phase }, { on := 18, ground := Ground.phase }, { on := 19, ground := Ground.phase }, { on := 20, ground := Ground.phase }, { on := 21, ground := Ground.phase }, { on := 22, ground := Ground.phase }, { on := 23, ground := Ground.phase }, { on := 24, ground := Ground.phase }, { on := 25, ground := Ground.phase }, { on := 26, ground := Ground.phase }, { on := 27, ground := Ground.phase }, { on := 28, ground := Ground.phase }, { on := 29, ground := Ground.phase }, { on := 30, ground := Ground.phase }, { on := 31, ground := Ground.phase }, { on := 32, ground := Ground.phase }, { on := 33, ground := Ground.phase }, { on := 34, ground := Ground.phase }], guard := none }) (v := ?_) rfl (by kernel_rfl) (by kernel_rfl) (by kernel_rfl) (fun _ _ _ h => h) (Or.inl ⟨by rfl, ?_⟩) hH1 ?_
    rotate_left
    · intro w' hw'
      obtain ⟨⟨s0, s1, s2, -, -, -, -⟩, ⟨t0, t1, t2, -, -, -, -⟩, x0⟩ := hw'
      go_simp
      try with_reducible rfl
    try simp only [Act.put, List.setIfInBounds_toArray, List.set_cons_zero, List.set_cons_succ]
    refine wpAnyH_done (by kernel_rfl) ?_ _
    refine NoPanic.normal ?_
    go_wp2_with fail
    go_ret
    exact ⟨rfl, b8'.out⟩
  · obtain ⟨n, l, d, rfl, rfl, rfl, hs⟩ := okS_of hok
    have GY := hide (getS E3.out.rd E3.out.t hpos.out hs)
    have RY := hide (fun (wx : World) (h : Ref wx w.heap.size r a0 nb cap0 P) (H : Has wx a0 nb cap0 lb) => rgetS h H hap.out (by omega) hP8 hs)
    replace RY := hide RY
    replace hs := hide hs
    clear hok
    go_wp2_with fail
    refine GY.out.mono ?_
    rintro e w4 ⟨er, t, kk, hg, her, h0, h1, b4⟩
    have S4 := hide (S3.out.but b4 f1.out)
    rw [hlb.out] at hg
    obtain ⟨n1, hn1⟩ : ∃ n1, n + 1 = n1 := ⟨_, rfl⟩
    obtain ⟨qq, hqq⟩ : ∃ qq, dl n l t = qq := ⟨_, rfl⟩
    rcases her with rfl | rfl | rfl
    · obtain ⟨rfl, R4⟩ := h0 rfl
      have E4 := hide (E3.out.getq b4 R4)
      clear h0 h1 GY E3 S3 b4 R4
      rw [hn1, hqq]
      have E4a := hide (E4.out.below ((Below.refl w4.heap.size w4).alloc (Nat.le_refl _) (.cells #[.int .i64 (n1 : Int), .int .i64 (t : Int), .int .i64 (qq : Int)] 23)))
      have S4a := hide (S4.out.kept ((Below.refl w4.heap.size w4).alloc (Nat.le_refl _) (.cells #[.int .i64 (n1 : Int), .int .i64 (t : Int), .int .i64 (qq : Int)] 23)) S4.out.lt)
      have X4 := hide (Box3.new w4 (.int .i64 (n1 : Int)) (.int .i64 (t : Int)) (.int .i64 (qq : Int)) 23)
      have f9 : Hid (w4.heap.size ≠ r) := by have := E4.out.rf.lt; show _ ≠ _; omega
      have RZ := hide (RY.out _ E4a.out.rf E4a.out.H)
      clear E4 S4 s0 s1 s2
      have s0 := S4a.out.c0
      have s1 := S4a.out.c1
      have s2 := S4a.out.c2
      go_wp2_with fail
      refine RZ.out.mono ?_
      rintro e w5 ⟨er2, t2, kk2, hg2, -, h02, h12, b5⟩
      rw [hg] at hg2
      simp only [Prod.mk.injEq] at hg2
      obtain ⟨rfl, rfl, rfl⟩ := hg2
      obtain ⟨rfl, R5⟩ := h02 rfl
      rw [hn1, hqq]
      have E5 := hide (E4a.out.getr b5 R5)
      clear RZ RY E4a h02 h12 R5
      obtain ⟨P2, hP2⟩ : ∃ P2, P + kk = P2 := ⟨_, rfl⟩
      rw [hP2] at E5
      replace hg := hide hg
      replace hn1 := hide hn1
      replace hqq := hide hqq
      replace hP2 := hide hP2
      have X5 := hide (X4.out.but b5 f9.out)
      have X6 := hide (X5.out.kept ((Below.refl w5.heap.size w5).alloc (Nat.le_refl _) (.cells #[.int .i64 (n1 : Int), .int .i64 (t : Int), .int .i64 (qq : Int)] 36)) X5.out.lt)
      have Y6 := hide (Box3.new w5 (.int .i64 (n1 : Int)) (.int .i64 (t : Int)) (.int .i64 (qq : Int)) 36)
      have E6 := hide (E5.out.below ((Below.refl w5.heap.size w5).alloc (Nat.le_refl _) (.cells #[.int .i64 (n1 : Int), .int .i64 (t : Int), .int .i64 (qq : Int)] 36)))
      clear X4 X5 E5 S4a s0 s1 s2 b5
      go_upto_region 8 with fail
      have heq : ∀ w, (binOp .eql 36 (.agg #[.int .i64 (n1 : Int), .int .i64 (t : Int), .int .i64 (qq : Int)]) (.agg #[.int .i64 (n1 : Int), .int .i64 (t : Int), .int .i64 (qq : Int)])).run Tryd.prog w = .ok (.bool true) w := fun w => by rw [run_eql36]; simp
      generalize w4.heap.size = g9 at *
      generalize w5.alloc (.cells #[.int .i64 (n1 : Int), .int .i64 (t : Int), .int .i64 (qq : Int)] 36) = w6 at *
      generalize w5.heap.size = g12 at *
      have KW := hide (works_any _ E6.out.drew.t)
      have AT := hide (atRd E6.out.drew.rd)
      refine wp_region_noPanic ?_
      refine wp_region_held_drew (S := fun w' => Box3 w' g9 (.int .i64 (n1 : Int)) (.int .i64 (t : Int)) (.int .i64 (qq : Int)) ∧ Box3 w' g12 (.int .i64 (n1 : Int)) (.int .i64 (t : Int)) (.int .i64 (qq : Int)) ∧ w'.cell? ⟨r, 1, none⟩ = some (.int .i64 (P2 : Int))) (by kernel_rfl) ⟨X6.out.drew, Y6.out.drew, E6.out.rf.c1⟩ (fun hH0 => ?_)
      refine wpAnyH_take (i := 0) (oi := { dst := some 53, op := Op.fieldAddr 23 (Operand.tmp 9) 0, type := 0, pos := "law.go:44", after := #[], guard := none }) (v := ?_) rfl (by kernel_rfl) (by kernel_rfl) (by kernel_rfl) (fun _ _ _ h => h) (Or.inl ⟨by rfl, ?_⟩) hH0 ?_
      rotate_left
      · intro w' hw'
        obtain ⟨⟨s0, s1, s2, -, -, -, -⟩, ⟨t0, t1, t2, -, -, -, -⟩, x0⟩ := hw'
        go_simp
        try with_reducible rfl
      try simp only [Act.put, List.setIfInBounds_toArray, List.set_cons_zero, List.set_cons_succ]
      refine wpAnyH_take (i := 1) (oi := { dst := some 54, op := Op.load 3 (Operand.tmp 53), type := 3, pos := "law.go:44", after := #[{ on := 0, ground := Ground.data }], guard := none }) (v := ?_) rfl (by kernel_rfl) (by kernel_rfl) (by kernel_rfl) (fun _ _ _ h => h) (Or.inl ⟨by rfl, ?_⟩) hH0 ?_
      rotate_left
      · intro w' hw'
        obtain ⟨⟨s0, s1, s2, -, -, -, -⟩, ⟨t0, t1, t2, -, -, -, -⟩, x0⟩ := hw'
        go_simp
        try with_reducible rfl
      try simp only [Act.put, List.setIfInBounds_toArray, List.set_cons_zero, List.set_cons_succ]
      refine wpAnyH_take (i := 2) (oi := { dst := some 55, op := Op.fieldAddr 23 (Operand.tmp 9) 1, type := 0, pos := "law.go:44", after := #[], guard := none }) (v := ?_) rfl (by kernel_rfl) (by kernel_rfl) (by kernel_rfl) (fun _ _ _ h => h) (Or.inl ⟨by rfl, ?_⟩) hH0 ?_
      rotate_left
      · intro w' hw'
        obtain ⟨⟨s0, s1, s2, -, -, -, -⟩, ⟨t0, t1, t2, -, -, -, -⟩, x0⟩ := hw'
        go_simp
        try with_reducible rfl
      try simp only [Act.put, List.setIfInBounds_toArray, List.set_cons_zero, List.set_cons_succ]
      refine wpAnyH_take (i := 3) (oi := { dst := some 56, op := Op.load 3 (Operand.tmp 55), type := 3, pos := "law.go:44", after := #[{ on := 2, ground := Ground.data }], guard := none }) (v := ?_) rfl (by kernel_rfl) (by kernel_rfl) (by kernel_rfl) (fun _ _ _ h => h) (Or.inl ⟨by rfl, ?_⟩) hH0 ?_
      rotate_left
      · intro w' hw'
        obtain ⟨⟨s0, s1, s2, -, -, -, -⟩, ⟨t0, t1, t2, -, -, -, -⟩, x0⟩ := hw'
        go_simp
        try with_reducible rfl
      try simp only [Act.put, List.setIfInBounds_toArray, List.set_cons_zero, List.set_cons_succ]
      refine wpAnyH_take (i := 4) (oi := { dst := some 57, op := Op.fieldAddr 23 (Operand.tmp 9) 2, type := 0, pos := "law.go:44", after := #[], guard := none }) (v := ?_) rfl (by kernel_rfl) (by kernel_rfl) (by kernel_rfl) (fun _ _ _ h => h) (Or.inl ⟨by rfl, ?_⟩) hH0 ?_
      rotate_left
      · intro w' hw'
        obtain ⟨⟨s0, s1, s2, -, -, -, -⟩, ⟨t0, t1, t2, -, -, -, -⟩, x0⟩ := hw'
        go_simp
        try with_reducible rfl
      try simp only [Act.put, List.setIfInBounds_toArray, List.set_cons_zero, List.set_cons_succ]
      refine wpAnyH_take (i := 5) (oi := { dst := some 58, op := Op.load 3 (Operand.tmp 57), type := 3, pos := "law.go:44", after := #[{ on := 4, ground := Ground.data }], guard := none }) (v := ?_) rfl (by kernel_rfl) (by kernel_rfl) (by kernel_rfl) (fun _ _ _ h => h) (Or.inl ⟨by rfl, ?_⟩) hH0 ?_
      rotate_left
      · intro w' hw'
        obtain ⟨⟨s0, s1, s2, -, -, -, -⟩, ⟨t0, t1, t2, -, -, -, -⟩, x0⟩ := hw'
        go_simp
        try with_reducible rfl
      try simp only [Act.put, List.setIfInBounds_toArray, List.set_cons_zero, List.set_cons_succ]
      refine wpAnyH_take (i := 6) (oi := { dst := some 59, op := Op.build 36 #[(0, Operand.tmp 54), (1, Operand.tmp 56), (2, Operand.tmp 58)], type := 36, pos := "law.go:44", after := #[{ on := 1, ground := Ground.data }, { on := 3, ground := Ground.data }, { on := 5, ground := Ground.data }], guard := none }) (v := ?_) rfl (by kernel_rfl) (by kernel_rfl) (by kernel_rfl) (fun _ _ _ h => h) (Or.inl ⟨by rfl, ?_⟩) hH0 ?_
      rotate_left
      · intro w' hw'
        obtain ⟨⟨s0, s1, s2, -, -, -, -⟩, ⟨t0, t1, t2, -, -, -, -⟩, x0⟩ := hw'
        go_simp
        try with_reducible rfl
      try simp only [Act.put, List.setIfInBounds_toArray, List.set_cons_zero, List.set_cons_succ]
      refine wpAnyH_take (i := 7) (oi := { dst := some 60, op := Op.load 36 (Operand.tmp 12), type := 36, pos := "law.go:44", after := #[], guard := none }) (v := ?_) rfl (by kernel_rfl) (by kernel_rfl) (by kernel_rfl) (fun _ _ _ h => h) (Or.inl ⟨by rfl, ?_⟩) hH0 ?_
      rotate_left
      · intro w' hw'
        obtain ⟨⟨s0, s1, s2, -, -, -, -⟩, ⟨t0, t1, t2, -, -, -, -⟩, x0⟩ := hw'
        go_simp
        try with_reducible rfl
      try simp only [Act.put, List.setIfInBounds_toArray, List.set_cons_zero, List.set_cons_succ]
      refine wpAnyH_take (i := 8) (oi := { dst := some 61, op := Op.binOp BinOp.eql 36 (Operand.tmp 59) (Operand.tmp 60) 36, type := 4, pos := "law.go:44", after := #[{ on := 6, ground := Ground.data }, { on := 7, ground := Ground.data }], guard := none }) (v := ?_) rfl (by kernel_rfl) (by kernel_rfl) (by kernel_rfl) (fun _ _ _ h => h) (Or.inl ⟨by rfl, ?_⟩) hH0 ?_
      rotate_left
      · intro w' hw'
        obtain ⟨⟨s0, s1, s2, -, -, -, -⟩, ⟨t0, t1, t2, -, -, -, -⟩, x0⟩ := hw'
        go_simp
        try with_reducible rfl
      try simp only [Act.put, List.setIfInBounds_toArray, List.set_cons_zero, List.set_cons_succ]
      refine wpAnyH_take (i := 9) (oi := { dst := some 62, op := Op.move (Operand.tmp 61), type := 4, pos := "law.go:44", after := #[{ on := 8, ground := Ground.data }], guard := none }) (v := ?_) rfl (by kernel_rfl) (by kernel_rfl) (by kernel_rfl) (fun _ _ _ h => h) (Or.inl ⟨by rfl, ?_⟩) hH0 ?_
      rotate_left
      · intro w' hw'
        obtain ⟨⟨s0, s1, s2, -, -, -, -⟩, ⟨t0, t1, t2, -, -, -, -⟩, x0⟩ := hw'
        go_simp
        try with_reducible rfl
      try simp only [Act.put, List.setIfInBounds_toArray, List.set_cons_zero, List.set_cons_succ]
      refine wpAnyH_take (i := 10) (oi := { dst := some 63, op := Op.move (Operand.tmp 10), type := 3, pos := "law.go:44", after := #[{ on := 9, ground := Ground.guard }], guard := some (9, true) }) (v := ?_) rfl (by kernel_rfl) (by kernel_rfl) (by kernel_rfl) (fun _ _ _ h => h) (Or.inl ⟨by rfl, ?_⟩) hH0 ?_
      rotate_left
      · intro w' hw'
        obtain ⟨⟨s0, s1, s2, -, -, -, -⟩, ⟨t0, t1, t2, -, -, -, -⟩, x0⟩ := hw'
        go_simp
        try with_reducible rfl
      try simp only [Act.put, List.setIfInBounds_toArray, List.set_cons_zero, List.set_cons_succ]
      refine wpAnyH_take (i := 11) (oi := { dst := some 64, op := Op.move (Operand.tmp 13), type := 3, pos := "law.go:44", after := #[{ on := 9, ground := Ground.guard }], guard := some (9, true) }) (v := ?_) rfl (by kernel_rfl) (by kernel_rfl) (by kernel_rfl) (fun _ _ _ h => h) (Or.inl ⟨by rfl, ?_⟩) hH0 ?_
      rotate_left
      · intro w' hw'
        obtain ⟨⟨s0, s1, s2, -, -, -, -⟩, ⟨t0, t1, t2, -, -, -, -⟩, x0⟩ := hw'
        go_simp
        try with_reducible rfl
      try simp only [Act.put, List.setIfInBounds_toArray, List.set_cons_zero, List.set_cons_succ]
      refine wpAnyH_take (i := 12) (oi := { dst := some 65, op := Op.binOp BinOp.eql 3 (Operand.tmp 63) (Operand.tmp 64) 3, type := 4, pos := "law.go:44", after := #[{ on := 10, ground := Ground.data }, { on := 11, ground := Ground.data }, { on := 9, ground := Ground.guard }], guard := some (9, true) }) (v := ?_) rfl (by kernel_rfl) (by kernel_rfl) (by kernel_rfl) (fun _ _ _ h => h) (Or.inl ⟨by rfl, ?_⟩) hH0 ?_
      rotate_left
      · intro w' hw'
        obtain ⟨⟨s0, s1, s2, -, -, -, -⟩, ⟨t0, t1, t2, -, -, -, -⟩, x0⟩ := hw'
        go_simp
        try with_reducible rfl
      try simp only [Act.put, List.setIfInBounds_toArray, List.set_cons_zero, List.set_cons_succ]
      refine wpAnyH_take (i := 13) (oi := { dst := some 66, op := Op.pick (Operand.tmp 62) (Operand.tmp 65) (Operand.const (Value.bool false)), type := 4, pos := "law.go:44", after := #[{ on := 9, ground := Ground.data }, { on := 12, ground := Ground.data }], guard := none }) (v := ?_) rfl (by kernel_rfl) (by kernel_rfl) (by kernel_rfl) (fun _ _ _ h => h) (Or.inl ⟨by rfl, ?_⟩) hH0 ?_
      rotate_left
      · intro w' hw'
        obtain ⟨⟨s0, s1, s2, -, -, -, -⟩, ⟨t0, t1, t2, -, -, -, -⟩, x0⟩ := hw'
        go_simp
        try with_reducible rfl
      try simp only [Act.put, List.setIfInBounds_toArray, List.set_cons_zero, List.set_cons_succ]
      refine wpAnyH_take (i := 14) (oi := { dst := some 67, op := Op.move (Operand.tmp 66), type := 4, pos := "law.go:44", after := #[{ on := 13, ground := Ground.data }, { on := 9, ground := Ground.chain }], guard := none }) (v := ?_) rfl (by kernel_rfl) (by kernel_rfl) (by kernel_rfl) (fun _ _ _ h => h) (Or.inl ⟨by rfl, ?_⟩) hH0 ?_
      rotate_left
      · intro w' hw'
        obtain ⟨⟨s0, s1, s2, -, -, -, -⟩, ⟨t0, t1, t2, -, -, -, -⟩, x0⟩ := hw'
        go_simp
        try with_reducible rfl
      try simp only [Act.put, List.setIfInBounds_toArray, List.set_cons_zero, List.set_cons_succ]
      refine wpAnyH_take (i := 15) (oi := { dst := some 68, op := Op.move (Operand.tmp 11), type := 31, pos := "law.go:44", after := #[{ on := 14, ground := Ground.guard }], guard := some (14, true) }) (v := ?_) rfl (by kernel_rfl) (by kernel_rfl) (by kernel_rfl) (fun _ _ _ h => h) (Or.inl ⟨by rfl, ?_⟩) hH0 ?_
      rotate_left
      · intro w' hw'
        obtain ⟨⟨s0, s1, s2, -, -, -, -⟩, ⟨t0, t1, t2, -, -, -, -⟩, x0⟩ := hw'
        go_simp
        try with_reducible rfl
      try simp only [Act.put, List.setIfInBounds_toArray, List.set_cons_zero, List.set_cons_succ]
      refine wpAnyH_take (i := 16) (oi := { dst := some 69, op := Op.move (Operand.tmp 14), type := 31, pos := "law.go:44", after := #[{ on := 14, ground := Ground.guard }], guard := some (14, true) }) (v := ?_) rfl (by kernel_rfl) (by kernel_rfl) (by kernel_rfl) (fun _ _ _ h => h) (Or.inl ⟨by rfl, ?_⟩) hH0 ?_
      rotate_left
      · intro w' hw'
        obtain ⟨⟨s0, s1, s2, -, -, -, -⟩, ⟨t0, t1, t2, -, -, -, -⟩, x0⟩ := hw'
        go_simp
        try with_reducible rfl
      try simp only [Act.put, List.setIfInBounds_toArray, List.set_cons_zero, List.set_cons_succ]
      refine wpAnyH_take (i := 17) (oi := { dst := some 70, op := Op.binOp BinOp.eql 31 (Operand.tmp 68) (Operand.tmp 69) 31, type := 4, pos := "law.go:44", after := #[{ on := 15, ground := Ground.data }, { on := 16, ground := Ground.data }, { on := 14, ground := Ground.guard }], guard := some (14, true) }) (v := ?_) rfl (by kernel_rfl) (by kernel_rfl) (by kernel_rfl) (fun _ _ _ h => h) (Or.inl ⟨by rfl, ?_⟩) hH0 ?_
      rotate_left
      · intro w' hw'
        obtain ⟨⟨s0, s1, s2, -, -, -, -⟩, ⟨t0, t1, t2, -, -, -, -⟩, x0⟩ := hw'
        go_simp
        try with_reducible rfl
      try simp only [Act.put, List.setIfInBounds_toArray, List.set_cons_zero, List.set_cons_succ]
      refine wpAnyH_take (i := 18) (oi := { dst := some 71, op := Op.pick (Operand.tmp 67) (Operand.tmp 70) (Operand.const (Value.bool false)), type := 4, pos := "law.go:44", after := #[{ on := 14, ground := Ground.data }, { on := 17, ground := Ground.data }], guard := none }) (v := ?_) rfl (by kernel_rfl) (by kernel_rfl) (by kernel_rfl) (fun _ _ _ h => h) (Or.inl ⟨by rfl, ?_⟩) hH0 ?_
      rotate_left
      · intro w' hw'
        obtain ⟨⟨s0, s1, s2, -, -, -, -⟩, ⟨t0, t1, t2, -, -, -, -⟩, x0⟩ := hw'
        go_simp
        try with_reducible rfl
      try simp only [Act.put, List.setIfInBounds_toArray, List.set_cons_zero, List.set_cons_succ]
      refine wpAnyH_take (i := 19) (oi := { dst := some 72, op := Op.move (Operand.tmp 71), type := 4, pos := "law.go:44", after := #[{ on := 18, ground := Ground.data }, { on := 14, ground := Ground.chain }], guard := none }) (v := ?_) rfl (by kernel_rfl) (by kernel_rfl) (by kernel_rfl) (fun _ _ _ h => h) (Or.inl ⟨by rfl, ?_⟩) hH0 ?_
      rotate_left
      · intro w' hw'
        obtain ⟨⟨s0, s1, s2, -, -, -, -⟩, ⟨t0, t1, t2, -, -, -, -⟩, x0⟩ := hw'
        go_simp
        try with_reducible rfl
      try simp only [Act.put, List.setIfInBounds_toArray, List.set_cons_zero, List.set_cons_succ]
      refine wpAnyH_take (i := 20) (oi := { dst := some 73, op := Op.move (Operand.tmp 11), type := 31, pos := "law.go:44", after := #[{ on := 19, ground := Ground.guard }], guard := some (19, true) }) (v := ?_) rfl (by kernel_rfl) (by kernel_rfl) (by kernel_rfl) (fun _ _ _ h => h) (Or.inl ⟨by rfl, ?_⟩) hH0 ?_
      rotate_left
      · intro w' hw'
        obtain ⟨⟨s0, s1, s2, -, -, -, -⟩, ⟨t0, t1, t2, -, -, -, -⟩, x0⟩ := hw'
        go_simp
        try with_reducible rfl
      try simp only [Act.put, List.setIfInBounds_toArray, List.set_cons_zero, List.set_cons_succ]
      refine wpAnyH_take (i := 21) (oi := { dst := some 74, op := Op.binOp BinOp.neq 31 (Operand.tmp 73) (Operand.const (Value.int IntKind.i64 0)) 31, type := 4, pos := "law.go:44", after := #[{ on := 20, ground := Ground.data }, { on := 19, ground := Ground.guard }], guard := some (19, true) }) (v := ?_) rfl (by kernel_rfl) (by kernel_rfl) (by kernel_rfl) (fun _ _ _ h => h) (Or.inl ⟨by rfl, ?_⟩) hH0 ?_
      rotate_left
      · intro w' hw'
        obtain ⟨⟨s0, s1, s2, -, -, -, -⟩, ⟨t0, t1, t2, -, -, -, -⟩, x0⟩ := hw'
        go_simp
        try with_reducible rfl
      try simp only [Act.put, List.setIfInBounds_toArray, List.set_cons_zero, List.set_cons_succ]
      refine wpAnyH_take (i := 22) (oi := { dst := some 75, op := Op.move (Operand.tmp 74), type := 4, pos := "law.go:44", after := #[{ on := 21, ground := Ground.data }, { on := 19, ground := Ground.chain }, { on := 19, ground := Ground.guard }], guard := some (19, true) }) (v := ?_) rfl (by kernel_rfl) (by kernel_rfl) (by kernel_rfl) (fun _ _ _ h => h) (Or.inl ⟨by rfl, ?_⟩) hH0 ?_
      rotate_left
      · intro w' hw'
        obtain ⟨⟨s0, s1, s2, -, -, -, -⟩, ⟨t0, t1, t2, -, -, -, -⟩, x0⟩ := hw'
        go_simp
        try with_reducible rfl
      try simp only [Act.put, List.setIfInBounds_toArray, List.set_cons_zero, List.set_cons_succ]
      refine wpAnyH_take (i := 23) (oi := { dst := some 76, op := Op.move (Operand.tmp 7), type := 45, pos := "law.go:44", after := #[{ on := 22, ground := Ground.guard }], guard := some (22, false) }) (v := ?_) rfl (by kernel_rfl) (by kernel_rfl) (by kernel_rfl) (fun _ _ _ h => h) (Or.inl ⟨by rfl, ?_⟩) hH0 ?_
      rotate_left
      · intro w' hw'
        obtain ⟨⟨s0, s1, s2, -, -, -, -⟩, ⟨t0, t1, t2, -, -, -, -⟩, x0⟩ := hw'
        go_simp
        try with_reducible rfl
      try simp only [Act.put, List.setIfInBounds_toArray, List.set_cons_zero, List.set_cons_succ]
      refine wpAnyH_take (i := 25) (oi := { dst := some 78, op := Op.move (Operand.tmp 8), type := 47, pos := "law.go:44", after := #[{ on := 22, ground := Ground.guard }], guard := some (22, false) }) (v := ?_) rfl (by kernel_rfl) (by kernel_rfl) (by kernel_rfl) (fun _ _ _ h => h) (Or.inl ⟨by rfl, ?_⟩) hH0 ?_
      rotate_left
      · intro w' hw'
        obtain ⟨⟨s0, s1, s2, -, -, -, -⟩, ⟨t0, t1, t2, -, -, -, -⟩, x0⟩ := hw'
        go_simp
        try with_reducible rfl
      try simp only [Act.put, List.setIfInBounds_toArray, List.set_cons_zero, List.set_cons_succ]
      refine wpAnyH_take (i := 26) (oi := { dst := some 79, op := Op.nilCheck (Operand.tmp 78), type := 0, pos := "law.go:44", after := #[{ on := 25, ground := Ground.data }, { on := 22, ground := Ground.guard }], guard := some (22, false) }) (v := ?_) rfl (by kernel_rfl) (by kernel_rfl) (by kernel_rfl) (fun _ _ _ h => h) (Or.inl ⟨by rfl, ?_⟩) hH0 ?_
      rotate_left
      · intro w' hw'
        obtain ⟨⟨s0, s1, s2, -, -, -, -⟩, ⟨t0, t1, t2, -, -, -, -⟩, x0⟩ := hw'
        go_simp
        try with_reducible rfl
      try simp only [Act.put, List.setIfInBounds_toArray, List.set_cons_zero, List.set_cons_succ]
      refine wpAnyH_take (i := 27) (oi := { dst := some 80, op := Op.fieldAddr 49 (Operand.tmp 79) 1, type := 0, pos := "law.go:44", after := #[{ on := 26, ground := Ground.data }, { on := 22, ground := Ground.guard }], guard := some (22, false) }) (v := ?_) rfl (by kernel_rfl) (by kernel_rfl) (by kernel_rfl) (fun _ _ _ h => h) (Or.inl ⟨by rfl, ?_⟩) hH0 ?_
      rotate_left
      · intro w' hw'
        obtain ⟨⟨s0, s1, s2, -, -, -, -⟩, ⟨t0, t1, t2, -, -, -, -⟩, x0⟩ := hw'
        go_simp
        try with_reducible rfl
      try simp only [Act.put, List.setIfInBounds_toArray, List.set_cons_zero, List.set_cons_succ]
      refine wpAnyH_take (i := 28) (oi := { dst := some 81, op := Op.load 3 (Operand.tmp 80), type := 3, pos := "law.go:44", after := #[{ on := 27, ground := Ground.data }, { on := 22, ground := Ground.guard }], guard := some (22, false) }) (v := ?_) rfl (by kernel_rfl) (by kernel_rfl) (by kernel_rfl) (fun _ _ _ h => h) (Or.inl ⟨by rfl, ?_⟩) hH0 ?_
      rotate_left
      · intro w' hw'
        obtain ⟨⟨s0, s1, s2, -, -, -, -⟩, ⟨t0, t1, t2, -, -, -, -⟩, x0⟩ := hw'
        go_simp
        try with_reducible rfl
      try simp only [Act.put, List.setIfInBounds_toArray, List.set_cons_zero, List.set_cons_succ]
      refine wpAnyH_ready (rs := [24]) (by kernel_rfl) (by simp) ?_
      refine AllReadyH.cons (o := { dst := some 77, op := Op.call { callee := Callee.value (Operand.func 25), args := #[Operand.tmp 76], argTypes := #[45] }, type := 3, pos := "law.go:44", after := #[{ on := 23, ground := Ground.data }, { on := 22, ground := Ground.chain }, { on := 22, ground := Ground.guard }], guard := some (22, false) }) rfl (fun K hK => ?_) AllReadyH.nil
      go_simp
      refine AT.out.mono ?_
      rintro e w7 ⟨rfl, rfl⟩
      refine hK.out _ _ ⟨X6.out.drew, Y6.out.drew, E6.out.rf.c1⟩ (fun hH1 => ?_)
      clear hK
      try simp only [Act.put, List.setIfInBounds_toArray, List.set_cons_zero, List.set_cons_succ]
      refine wpAnyH_take (i := 29) (oi := { dst := some 82, op := Op.binOp BinOp.eql 3 (Operand.tmp 77) (Operand.tmp 81) 3, type := 4, pos := "law.go:44", after := #[{ on := 24, ground := Ground.data }, { on := 28, ground := Ground.data }, { on := 22, ground := Ground.guard }], guard := some (22, false) }) (v := ?_) rfl (by kernel_rfl) (by kernel_rfl) (by kernel_rfl) (fun _ _ _ h => h) (Or.inl ⟨by rfl, ?_⟩) hH1 ?_
      rotate_left
      · intro w' hw'
        obtain ⟨⟨s0, s1, s2, -, -, -, -⟩, ⟨t0, t1, t2, -, -, -, -⟩, x0⟩ := hw'
        go_simp
        try with_reducible rfl
      try simp only [Act.put, List.setIfInBounds_toArray, List.set_cons_zero, List.set_cons_succ]
      refine wpAnyH_take (i := 30) (oi := { dst := some 83, op := Op.pick (Operand.tmp 75) (Operand.const (Value.bool true)) (Operand.tmp 82), type := 4, pos := "law.go:44", after := #[{ on := 22, ground := Ground.data }, { on := 29, ground := Ground.data }, { on := 19, ground := Ground.guard }], guard := some (19, true) }) (v := ?_) rfl (by kernel_rfl) (by kernel_rfl) (by kernel_rfl) (fun _ _ _ h => h) (Or.inl ⟨by rfl, ?_⟩) hH1 ?_
      rotate_left
      · intro w' hw'
        obtain ⟨⟨s0, s1, s2, -, -, -, -⟩, ⟨t0, t1, t2, -, -, -, -⟩, x0⟩ := hw'
        go_simp
        try with_reducible rfl
      try simp only [Act.put, List.setIfInBounds_toArray, List.set_cons_zero, List.set_cons_succ]
      refine wpAnyH_take (i := 31) (oi := { dst := some 84, op := Op.pick (Operand.tmp 72) (Operand.tmp 83) (Operand.const (Value.bool false)), type := 4, pos := "law.go:44", after := #[{ on := 19, ground := Ground.data }, { on := 30, ground := Ground.data }], guard := none }) (v := ?_) rfl (by kernel_rfl) (by kernel_rfl) (by kernel_rfl) (fun _ _ _ h => h) (Or.inl ⟨by rfl, ?_⟩) hH1 ?_
      rotate_left
      · intro w' hw'
        obtain ⟨⟨s0, s1, s2, -, -, -, -⟩, ⟨t0, t1, t2, -, -, -, -⟩, x0⟩ := hw'
        go_simp
        try with_reducible rfl
      try simp only [Act.put, List.setIfInBounds_toArray, List.set_cons_zero, List.set_cons_succ]
      refine wpAnyH_take (i := 32) (oi := { dst := some 85, op := Op.move (Operand.tmp 84), type := 4, pos := "law.go:44", after := #[{ on := 31, ground := Ground.data }, { on := 24, ground := Ground.chain }], guard := none }) (v := ?_) rfl (by kernel_rfl) (by kernel_rfl) (by kernel_rfl) (fun _ _ _ h => h) (Or.inl ⟨by rfl, ?_⟩) hH1 ?_
      rotate_left
      · intro w' hw'
        obtain ⟨⟨s0, s1, s2, -, -, -, -⟩, ⟨t0, t1, t2, -, -, -, -⟩, x0⟩ := hw'
        go_simp
        try with_reducible rfl
      try simp only [Act.put, List.setIfInBounds_toArray, List.set_cons_zero, List.set_cons_succ]
      refine wpAnyH_ready (rs := [33]) (by kernel_rfl) (by simp) ?_
      refine AllReadyH.cons (o := { dst := some 86, op := Op.call { callee := Callee.value (Operand.func 19), args := #[], argTypes := #[] }, type := 4, pos := "law.go:44", after := #[{ on := 32, ground := Ground.chain }, { on := 32, ground := Ground.guard }], guard := some (32, true) }) rfl (fun K hK => ?_) AllReadyH.nil
      go_simp
      refine KW.out.mono ?_
      rintro e w8 ⟨rfl, b8⟩
      have b8' := hide (E6.out.drew.bel.trans (b8.mono E6.out.bel.size))
      refine hK.out _ _ ⟨X6.out.drew.kept b8 X6.out.lt, Y6.out.drew.kept b8 Y6.out.lt, (b8.cell (p := ⟨r, 1, none⟩) E6.out.rf.lt).trans E6.out.rf.c1⟩ (fun hH2 => ?_)
      clear hK
      try simp only [Act.put, List.setIfInBounds_toArray, List.set_cons_zero, List.set_cons_succ]
      refine wpAnyH_take (i := 34) (oi := { dst := some 87, op := Op.pick (Operand.tmp 85) (Operand.tmp 86) (Operand.const (Value.bool false)), type := 4, pos := "law.go:44", after := #[{ on := 32, ground := Ground.data }, { on := 33, ground := Ground.data }], guard := none }) (v := ?_) rfl (by kernel_rfl) (by kernel_rfl) (by kernel_rfl) (fun _ _ _ h => h) (Or.inl ⟨by rfl, ?_⟩) hH2 ?_
      rotate_left
      · intro w' hw'
        obtain ⟨⟨s0, s1, s2, -, -, -, -⟩, ⟨t0, t1, t2, -, -, -, -⟩, x0⟩ := hw'
        go_simp
        try with_reducible rfl
      try simp only [Act.put, List.setIfInBounds_toArray, List.set_cons_zero, List.set_cons_succ]
      refine wpAnyH_take (i := 35) (oi := { dst := some 6, op := Op.assign (Operand.tmp 87), type := 4, pos := "law.go:44", after := #[{ on := 34, ground := Ground.data }, { on := 33, ground := Ground.chain }, { on := 0, ground := Ground.phase }, { on := 1, ground := Ground.phase }, { on := 2, ground := Ground.phase }, { on := 3, ground := Ground.phase }, { on := 4, ground := Ground.phase }, { on := 5, ground := Ground.phase }, { on := 6, ground := Ground.phase }, { on := 7, ground := Ground.phase }, { on := 8, ground := Ground.phase }, { on := 9, ground := Ground.phase }, { on := 10, ground := Ground.phase }, { on := 11, ground := Ground.phase }, { on := 12, ground := Ground.phase }, { on := 13, ground := Ground.phase }, { on := 14, ground := Ground.phase }, { on := 15, ground := Ground.phase }, { on := 16, ground := Ground.phase }, { on := 17, ground := Ground.phase }, { on := 18, ground := Ground.phase }, { on := 19, ground := Ground.phase }, { on := 20, ground := Ground.phase }, { on := 21, ground := Ground.phase }, { on := 22, ground := Ground.phase }, { on := 23, ground := Ground.phase }, { on := 24, ground := Ground.phase }, { on := 25, ground := Ground.phase }, { on := 26, ground := Ground.phase }, { on := 27, ground := Ground.phase }, { on := 28, ground := Ground.phase }, { on := 29, ground := Ground.phase }, { on := 30, ground := Ground.phase }, { on := 31, ground := Ground.phase }, { on := 32, ground := Ground.phase }, { on := 33, ground := Ground.phase }, { on := 34, ground := Ground.phase }], guard := none }) (v := ?_) rfl (by kernel_rfl) (by kernel_rfl) (by kernel_rfl) (fun _ _ _ h => h) (Or.inl ⟨by rfl, ?_⟩) hH2 ?_
      rotate_left
      · intro w' hw'
        obtain ⟨⟨s0, s1, s2, -, -, -, -⟩, ⟨t0, t1, t2, -, -, -, -⟩, x0⟩ := hw'
        go_simp
        try with_reducible rfl
      try simp only [Act.put, List.setIfInBounds_toArray, List.set_cons_zero, List.set_cons_succ]
      refine wpAnyH_done (by kernel_rfl) ?_ _
      refine NoPanic.normal ?_
      go_wp2_with fail
      go_ret
      exact ⟨rfl, b8'.out⟩
    · obtain ⟨rfl, R4⟩ := h1 (by decide)
      have E4 := hide (E3.out.getq b4 R4)
      clear h0 h1 GY E3 S3 b4 R4
      simp only [show ((50 : Nat) : Int) = 50 from rfl]
      have E4a := hide (E4.out.below ((Below.refl w4.heap.size w4).alloc (Nat.le_refl _) (.cells #[.int .i64 0, .int .i64 0, .int .i64 0] 23)))
      have S4a := hide (S4.out.kept ((Below.refl w4.heap.size w4).alloc (Nat.le_refl _) (.cells #[.int .i64 0, .int .i64 0, .int .i64 0] 23)) S4.out.lt)
      have X4 := hide (Box3.new w4 (.int .i64 0) (.int .i64 0) (.int .i64 0) 23)
      have f9 : Hid (w4.heap.size ≠ r) := by have := E4.out.rf.lt; show _ ≠ _; omega
      have RZ := hide (RY.out _ E4a.out.rf E4a.out.H)
      clear E4 S4 s0 s1 s2
      have s0 := S4a.out.c0
      have s1 := S4a.out.c1
      have s2 := S4a.out.c2
      go_wp2_with fail
      refine RZ.out.mono ?_
      rintro e w5 ⟨er2, t2, kk2, hg2, -, h02, h12, b5⟩
      rw [hg] at hg2
      simp only [Prod.mk.injEq] at hg2
      obtain ⟨rfl, rfl, rfl⟩ := hg2
      obtain ⟨rfl, P3, R5⟩ := h12 (by decide)
      have E5 := hide (E4a.out.getr b5 R5)
      clear RZ RY E4a h02 h12 R5
      simp only [show ((50 : Nat) : Int) = 50 from rfl]
      replace hg := hide hg
      replace hn1 := hide hn1
      replace hqq := hide hqq
      have X5 := hide (X4.out.but b5 f9.out)
      have X6 := hide (X5.out.kept ((Below.refl w5.heap.size w5).alloc (Nat.le_refl _) (.cells #[.int .i64 0, .int .i64 0, .int .i64 0] 36)) X5.out.lt)
      have Y6 := hide (Box3.new w5 (.int .i64 0) (.int .i64 0) (.int .i64 0) 36)
      have E6 := hide (E5.out.below ((Below.refl w5.heap.size w5).alloc (Nat.le_refl _) (.cells #[.int .i64 0, .int .i64 0, .int .i64 0] 36)))
      clear X4 X5 E5 S4a s0 s1 s2 b5
      go_upto_region 8 with fail
      have heq : ∀ w, (binOp .eql 36 (.agg #[.int .i64 0, .int .i64 0, .int .i64 0]) (.agg #[.int .i64 0, .int .i64 0, .int .i64 0])).run Tryd.prog w = .ok (.bool true) w := fun w => by rw [run_eql36]; simp
      generalize w4.heap.size = g9 at *
      generalize w5.alloc (.cells #[.int .i64 0, .int .i64 0, .int .i64 0] 36) = w6 at *
      generalize w5.heap.size = g12 at *
      have KW := hide (works_any _ E6.out.drew.t)
      refine wp_region_noPanic ?_
      refine wp_region_held_drew (S := fun w' => Box3 w' g9 (.int .i64 0) (.int .i64 0) (.int .i64 0) ∧ Box3 w' g12 (.int .i64 0) (.int .i64 0) (.int .i64 0) ∧ w'.cell? ⟨r, 1, none⟩ = some (.int .i64 (P3 : Int))) (by kernel_rfl) ⟨X6.out.drew, Y6.out.drew, E6.out.rf.c1⟩ (fun hH0 => ?_)
      refine wpAnyH_take (i := 0) (oi := { dst := some 53, op := Op.fieldAddr 23 (Operand.tmp 9) 0, type := 0, pos := "law.go:44", after := #[], guard := none }) (v := ?_) rfl (by kernel_rfl) (by kernel_rfl) (by kernel_rfl) (fun _ _ _ h => h) (Or.inl ⟨by rfl, ?_⟩) hH0 ?_
      rotate_left
      · intro w' hw'
        obtain ⟨⟨s0, s1, s2, -, -, -, -⟩, ⟨t0, t1, t2, -, -, -, -⟩, x0⟩ := hw'
        go_simp
        try with_reducible rfl
      try simp only [Act.put, List.setIfInBounds_toArray, List.set_cons_zero, List.set_cons_succ]
      refine wpAnyH_take (i := 1) (oi := { dst := some 54, op := Op.load 3 (Operand.tmp 53), type := 3, pos := "law.go:44", after := #[{ on := 0, ground := Ground.data }], guard := none }) (v := ?_) rfl (by kernel_rfl) (by kernel_rfl) (by kernel_rfl) (fun _ _ _ h => h) (Or.inl ⟨by rfl, ?_⟩) hH0 ?_
      rotate_left
      · intro w' hw'
        obtain ⟨⟨s0, s1, s2, -, -, -, -⟩, ⟨t0, t1, t2, -, -, -, -⟩, x0⟩ := hw'
        go_simp
        try with_reducible rfl
      try simp only [Act.put, List.setIfInBounds_toArray, List.set_cons_zero, List.set_cons_succ]
      refine wpAnyH_take (i := 2) (oi := { dst := some 55, op := Op.fieldAddr 23 (Operand.tmp 9) 1, type := 0, pos := "law.go:44", after := #[], guard := none }) (v := ?_) rfl (by kernel_rfl) (by kernel_rfl) (by kernel_rfl) (fun _ _ _ h => h) (Or.inl ⟨by rfl, ?_⟩) hH0 ?_
      rotate_left
      · intro w' hw'
        obtain ⟨⟨s0, s1, s2, -, -, -, -⟩, ⟨t0, t1, t2, -, -, -, -⟩, x0⟩ := hw'
        go_simp
        try with_reducible rfl
      try simp only [Act.put, List.setIfInBounds_toArray, List.set_cons_zero, List.set_cons_succ]
      refine wpAnyH_take (i := 3) (oi := { dst := some 56, op := Op.load 3 (Operand.tmp 55), type := 3, pos := "law.go:44", after := #[{ on := 2, ground := Ground.data }], guard := none }) (v := ?_) rfl (by kernel_rfl) (by kernel_rfl) (by kernel_rfl) (fun _ _ _ h => h) (Or.inl ⟨by rfl, ?_⟩) hH0 ?_
      rotate_left
      · intro w' hw'
        obtain ⟨⟨s0, s1, s2, -, -, -, -⟩, ⟨t0, t1, t2, -, -, -, -⟩, x0⟩ := hw'
        go_simp
        try with_reducible rfl
      try simp only [Act.put, List.setIfInBounds_toArray, List.set_cons_zero, List.set_cons_succ]
      refine wpAnyH_take (i := 4) (oi := { dst := some 57, op := Op.fieldAddr 23 (Operand.tmp 9) 2, type := 0, pos := "law.go:44", after := #[], guard := none }) (v := ?_) rfl (by kernel_rfl) (by kernel_rfl) (by kernel_rfl) (fun _ _ _ h => h) (Or.inl ⟨by rfl, ?_⟩) hH0 ?_
      rotate_left
      · intro w' hw'
        obtain ⟨⟨s0, s1, s2, -, -, -, -⟩, ⟨t0, t1, t2, -, -, -, -⟩, x0⟩ := hw'
        go_simp
        try with_reducible rfl
      try simp only [Act.put, List.setIfInBounds_toArray, List.set_cons_zero, List.set_cons_succ]
      refine wpAnyH_take (i := 5) (oi := { dst := some 58, op := Op.load 3 (Operand.tmp 57), type := 3, pos := "law.go:44", after := #[{ on := 4, ground := Ground.data }], guard := none }) (v := ?_) rfl (by kernel_rfl) (by kernel_rfl) (by kernel_rfl) (fun _ _ _ h => h) (Or.inl ⟨by rfl, ?_⟩) hH0 ?_
      rotate_left
      · intro w' hw'
        obtain ⟨⟨s0, s1, s2, -, -, -, -⟩, ⟨t0, t1, t2, -, -, -, -⟩, x0⟩ := hw'
        go_simp
        try with_reducible rfl
      try simp only [Act.put, List.setIfInBounds_toArray, List.set_cons_zero, List.set_cons_succ]
      refine wpAnyH_take (i := 6) (oi := { dst := some 59, op := Op.build 36 #[(0, Operand.tmp 54), (1, Operand.tmp 56), (2, Operand.tmp 58)], type := 36, pos := "law.go:44", after := #[{ on := 1, ground := Ground.data }, { on := 3, ground := Ground.data }, { on := 5, ground := Ground.data }], guard := none }) (v := ?_) rfl (by kernel_rfl) (by kernel_rfl) (by kernel_rfl) (fun _ _ _ h => h) (Or.inl ⟨by rfl, ?_⟩) hH0 ?_
      rotate_left
      · intro w' hw'
        obtain ⟨⟨s0, s1, s2, -, -, -, -⟩, ⟨t0, t1, t2, -, -, -, -⟩, x0⟩ := hw'
        go_simp
        try with_reducible rfl
      try simp only [Act.put, List.setIfInBounds_toArray, List.set_cons_zero, List.set_cons_succ]
      refine wpAnyH_take (i := 7) (oi := { dst := some 60, op := Op.load 36 (Operand.tmp 12), type := 36, pos := "law.go:44", after := #[], guard := none }) (v := ?_) rfl (by kernel_rfl) (by kernel_rfl) (by kernel_rfl) (fun _ _ _ h => h) (Or.inl ⟨by rfl, ?_⟩) hH0 ?_
      rotate_left
      · intro w' hw'
        obtain ⟨⟨s0, s1, s2, -, -, -, -⟩, ⟨t0, t1, t2, -, -, -, -⟩, x0⟩ := hw'
        go_simp
        try with_reducible rfl
      try simp only [Act.put, List.setIfInBounds_toArray, List.set_cons_zero, List.set_cons_succ]
      refine wpAnyH_take (i := 8) (oi := { dst := some 61, op := Op.binOp BinOp.eql 36 (Operand.tmp 59) (Operand.tmp 60) 36, type := 4, pos := "law.go:44", after := #[{ on := 6, ground := Ground.data }, { on := 7, ground := Ground.data }], guard := none }) (v := ?_) rfl (by kernel_rfl) (by kernel_rfl) (by kernel_rfl) (fun _ _ _ h => h) (Or.inl ⟨by rfl, ?_⟩) hH0 ?_
      rotate_left
      · intro w' hw'
        obtain ⟨⟨s0, s1, s2, -, -, -, -⟩, ⟨t0, t1, t2, -, -, -, -⟩, x0⟩ := hw'
        go_simp
        try with_reducible rfl
      try simp only [Act.put, List.setIfInBounds_toArray, List.set_cons_zero, List.set_cons_succ]
      refine wpAnyH_take (i := 9) (oi := { dst := some 62, op := Op.move (Operand.tmp 61), type := 4, pos := "law.go:44", after := #[{ on := 8, ground := Ground.data }], guard := none }) (v := ?_) rfl (by kernel_rfl) (by kernel_rfl) (by kernel_rfl) (fun _ _ _ h => h) (Or.inl ⟨by rfl, ?_⟩) hH0 ?_
      rotate_left
      · intro w' hw'
        obtain ⟨⟨s0, s1, s2, -, -, -, -⟩, ⟨t0, t1, t2, -, -, -, -⟩, x0⟩ := hw'
        go_simp
        try with_reducible rfl
      try simp only [Act.put, List.setIfInBounds_toArray, List.set_cons_zero, List.set_cons_succ]
      refine wpAnyH_take (i := 10) (oi := { dst := some 63, op := Op.move (Operand.tmp 10), type := 3, pos := "law.go:44", after := #[{ on := 9, ground := Ground.guard }], guard := some (9, true) }) (v := ?_) rfl (by kernel_rfl) (by kernel_rfl) (by kernel_rfl) (fun _ _ _ h => h) (Or.inl ⟨by rfl, ?_⟩) hH0 ?_
      rotate_left
      · intro w' hw'
        obtain ⟨⟨s0, s1, s2, -, -, -, -⟩, ⟨t0, t1, t2, -, -, -, -⟩, x0⟩ := hw'
        go_simp
        try with_reducible rfl
      try simp only [Act.put, List.setIfInBounds_toArray, List.set_cons_zero, List.set_cons_succ]
      refine wpAnyH_take (i := 11) (oi := { dst := some 64, op := Op.move (Operand.tmp 13), type := 3, pos := "law.go:44", after := #[{ on := 9, ground := Ground.guard }], guard := some (9, true) }) (v := ?_) rfl (by kernel_rfl) (by kernel_rfl) (by kernel_rfl) (fun _ _ _ h => h) (Or.inl ⟨by rfl, ?_⟩) hH0 ?_
      rotate_left
      · intro w' hw'
        obtain ⟨⟨s0, s1, s2, -, -, -, -⟩, ⟨t0, t1, t2, -, -, -, -⟩, x0⟩ := hw'
        go_simp
        try with_reducible rfl
      try simp only [Act.put, List.setIfInBounds_toArray, List.set_cons_zero, List.set_cons_succ]
      refine wpAnyH_take (i := 12) (oi := { dst := some 65, op := Op.binOp BinOp.eql 3 (Operand.tmp 63) (Operand.tmp 64) 3, type := 4, pos := "law.go:44", after := #[{ on := 10, ground := Ground.data }, { on := 11, ground := Ground.data }, { on := 9, ground := Ground.guard }], guard := some (9, true) }) (v := ?_) rfl (by kernel_rfl) (by kernel_rfl) (by kernel_rfl) (fun _ _ _ h => h) (Or.inl ⟨by rfl, ?_⟩) hH0 ?_
      rotate_left
      · intro w' hw'
        obtain ⟨⟨s0, s1, s2, -, -, -, -⟩, ⟨t0, t1, t2, -, -, -, -⟩, x0⟩ := hw'
        go_simp
        try with_reducible rfl
      try simp only [Act.put, List.setIfInBounds_toArray, List.set_cons_zero, List.set_cons_succ]
      refine wpAnyH_take (i := 13) (oi := { dst := some 66, op := Op.pick (Operand.tmp 62) (Operand.tmp 65) (Operand.const (Value.bool false)), type := 4, pos := "law.go:44", after := #[{ on := 9, ground := Ground.data }, { on := 12, ground := Ground.data }], guard := none }) (v := ?_) rfl (by kernel_rfl) (by kernel_rfl) (by kernel_rfl) (fun _ _ _ h => h) (Or.inl ⟨by rfl, ?_⟩) hH0 ?_
      rotate_left
      · intro w' hw'
        obtain ⟨⟨s0, s1, s2, -, -, -, -⟩, ⟨t0, t1, t2, -, -, -, -⟩, x0⟩ := hw'
        go_simp
        try with_reducible rfl
      try simp only [Act.put, List.setIfInBounds_toArray, List.set_cons_zero, List.set_cons_succ]
      refine wpAnyH_take (i := 14) (oi := { dst := some 67, op := Op.move (Operand.tmp 66), type := 4, pos := "law.go:44", after := #[{ on := 13, ground := Ground.data }, { on := 9, ground := Ground.chain }], guard := none }) (v := ?_) rfl (by kernel_rfl) (by kernel_rfl) (by kernel_rfl) (fun _ _ _ h => h) (Or.inl ⟨by rfl, ?_⟩) hH0 ?_
      rotate_left
      · intro w' hw'
        obtain ⟨⟨s0, s1, s2, -, -, -, -⟩, ⟨t0, t1, t2, -, -, -, -⟩, x0⟩ := hw'
        go_simp
        try with_reducible rfl
      try simp only [Act.put, List.setIfInBounds_toArray, List.set_cons_zero, List.set_cons_succ]
      refine wpAnyH_take (i := 15) (oi := { dst := some 68, op := Op.move (Operand.tmp 11), type := 31, pos := "law.go:44", after := #[{ on := 14, ground := Ground.guard }], guard := some (14, true) }) (v := ?_) rfl (by kernel_rfl) (by kernel_rfl) (by kernel_rfl) (fun _ _ _ h => h) (Or.inl ⟨by rfl, ?_⟩) hH0 ?_
      rotate_left
      · intro w' hw'
        obtain ⟨⟨s0, s1, s2, -, -, -, -⟩, ⟨t0, t1, t2, -, -, -, -⟩, x0⟩ := hw'
        go_simp
        try with_reducible rfl
      try simp only [Act.put, List.setIfInBounds_toArray, List.set_cons_zero, List.set_cons_succ]
      refine wpAnyH_take (i := 16) (oi := { dst := some 69, op := Op.move (Operand.tmp 14), type := 31, pos := "law.go:44", after := #[{ on := 14, ground := Ground.guard }], guard := some (14, true) }) (v := ?_) rfl (by kernel_rfl) (by kernel_rfl) (by kernel_rfl) (fun _ _ _ h => h) (Or.inl ⟨by rfl, ?_⟩) hH0 ?_
      rotate_left
      · intro w' hw'
        obtain ⟨⟨s0, s1, s2, -, -, -, -⟩, ⟨t0, t1, t2, -, -, -, -⟩, x0⟩ := hw'
        go_simp
        try with_reducible rfl
      try simp only [Act.put, List.setIfInBounds_toArray, List.set_cons_zero, List.set_cons_succ]
      refine wpAnyH_take (i := 17) (oi := { dst := some 70, op := Op.binOp BinOp.eql 31 (Operand.tmp 68) (Operand.tmp 69) 31, type := 4, pos := "law.go:44", after := #[{ on := 15, ground := Ground.data }, { on := 16, ground := Ground.data }, { on := 14, ground := Ground.guard }], guard := some (14, true) }) (v := ?_) rfl (by kernel_rfl) (by kernel_rfl) (by kernel_rfl) (fun _ _ _ h => h) (Or.inl ⟨by rfl, ?_⟩) hH0 ?_
      rotate_left
      · intro w' hw'
        obtain ⟨⟨s0, s1, s2, -, -, -, -⟩, ⟨t0, t1, t2, -, -, -, -⟩, x0⟩ := hw'
        go_simp
        try with_reducible rfl
      try simp only [Act.put, List.setIfInBounds_toArray, List.set_cons_zero, List.set_cons_succ]
      refine wpAnyH_take (i := 18) (oi := { dst := some 71, op := Op.pick (Operand.tmp 67) (Operand.tmp 70) (Operand.const (Value.bool false)), type := 4, pos := "law.go:44", after := #[{ on := 14, ground := Ground.data }, { on := 17, ground := Ground.data }], guard := none }) (v := ?_) rfl (by kernel_rfl) (by kernel_rfl) (by kernel_rfl) (fun _ _ _ h => h) (Or.inl ⟨by rfl, ?_⟩) hH0 ?_
      rotate_left
      · intro w' hw'
        obtain ⟨⟨s0, s1, s2, -, -, -, -⟩, ⟨t0, t1, t2, -, -, -, -⟩, x0⟩ := hw'
        go_simp
        try with_reducible rfl
      try simp only [Act.put, List.setIfInBounds_toArray, List.set_cons_zero, List.set_cons_succ]
      refine wpAnyH_take (i := 19) (oi := { dst := some 72, op := Op.move (Operand.tmp 71), type := 4, pos := "law.go:44", after := #[{ on := 18, ground := Ground.data }, { on := 14, ground := Ground.chain }], guard := none }) (v := ?_) rfl (by kernel_rfl) (by kernel_rfl) (by kernel_rfl) (fun _ _ _ h => h) (Or.inl ⟨by rfl, ?_⟩) hH0 ?_
      rotate_left
      · intro w' hw'
        obtain ⟨⟨s0, s1, s2, -, -, -, -⟩, ⟨t0, t1, t2, -, -, -, -⟩, x0⟩ := hw'
        go_simp
        try with_reducible rfl
      try simp only [Act.put, List.setIfInBounds_toArray, List.set_cons_zero, List.set_cons_succ]
      refine wpAnyH_take (i := 20) (oi := { dst := some 73, op := Op.move (Operand.tmp 11), type := 31, pos := "law.go:44", after := #[{ on := 19, ground := Ground.guard }], guard := some (19, true) }) (v := ?_) rfl (by kernel_rfl) (by kernel_rfl) (by kernel_rfl) (fun _ _ _ h => h) (Or.inl ⟨by rfl, ?_⟩) hH0 ?_
      rotate_left
      · intro w' hw'
        obtain ⟨⟨s0, s1, s2, -, -, -, -⟩, ⟨t0, t1, t2, -, -, -, -⟩, x0⟩ := hw'
        go_simp
        try with_reducible rfl
      try simp only [Act.put, List.setIfInBounds_toArray, List.set_cons_zero, List.set_cons_succ]
      refine wpAnyH_take (i := 21) (oi := { dst := some 74, op := Op.binOp BinOp.neq 31 (Operand.tmp 73) (Operand.const (Value.int IntKind.i64 0)) 31, type := 4, pos := "law.go:44", after := #[{ on := 20, ground := Ground.data }, { on := 19, ground := Ground.guard }], guard := some (19, true) }) (v := ?_) rfl (by kernel_rfl) (by kernel_rfl) (by kernel_rfl) (fun _ _ _ h => h) (Or.inl ⟨by rfl, ?_⟩) hH0 ?_
      rotate_left
      · intro w' hw'
        obtain ⟨⟨s0, s1, s2, -, -, -, -⟩, ⟨t0, t1, t2, -, -, -, -⟩, x0⟩ := hw'
        go_simp
        try with_reducible rfl
      try simp only [Act.put, List.setIfInBounds_toArray, List.set_cons_zero, List.set_cons_succ]
      refine wpAnyH_take (i := 22) (oi := { dst := some 75, op := Op.move (Operand.tmp 74), type := 4, pos := "law.go:44", after := #[{ on := 21, ground := Ground.data }, { on := 19, ground := Ground.chain }, { on := 19, ground := Ground.guard }], guard := some (19, true) }) (v := ?_) rfl (by kernel_rfl) (by kernel_rfl) (by kernel_rfl) (fun _ _ _ h => h) (Or.inl ⟨by rfl, ?_⟩) hH0 ?_
      rotate_left
      · intro w' hw'
        obtain ⟨⟨s0, s1, s2, -, -, -, -⟩, ⟨t0, t1, t2, -, -, -, -⟩, x0⟩ := hw'
        go_simp
        try with_reducible rfl
      try simp only [Act.put, List.setIfInBounds_toArray, List.set_cons_zero, List.set_cons_succ]
      refine wpAnyH_take (i := 23) (oi := { dst := some 76, op := Op.move (Operand.tmp 7), type := 45, pos := "law.go:44", after := #[{ on := 22, ground := Ground.guard }], guard := some (22, false) }) (v := undef) rfl (by kernel_rfl) (by kernel_rfl) (by kernel_rfl) (fun _ _ _ h => h) (Or.inr ⟨by rfl, rfl⟩) hH0 ?_
      try simp only [Act.put, List.setIfInBounds_toArray, List.set_cons_zero, List.set_cons_succ]
      refine wpAnyH_take (i := 24) (oi := { dst := some 77, op := Op.call { callee := Callee.value (Operand.func 25), args := #[Operand.tmp 76], argTypes := #[45] }, type := 3, pos := "law.go:44", after := #[{ on := 23, ground := Ground.data }, { on := 22, ground := Ground.chain }, { on := 22, ground := Ground.guard }], guard := some (22, false) }) (v := undef) rfl (by kernel_rfl) (by kernel_rfl) (by kernel_rfl) (fun _ _ _ h => h) (Or.inr ⟨by rfl, rfl⟩) hH0 ?_
      try simp only [Act.put, List.setIfInBounds_toArray, List.set_cons_zero, List.set_cons_succ]
      refine wpAnyH_take (i := 25) (oi := { dst := some 78, op := Op.move (Operand.tmp 8), type := 47, pos := "law.go:44", after := #[{ on := 22, ground := Ground.guard }], guard := some (22, false) }) (v := undef) rfl (by kernel_rfl) (by kernel_rfl) (by kernel_rfl) (fun _ _ _ h => h) (Or.inr ⟨by rfl, rfl⟩) hH0 ?_
      try simp only [Act.put, List.setIfInBounds_toArray, List.set_cons_zero, List.set_cons_succ]
      refine wpAnyH_take (i := 26) (oi := { dst := some 79, op := Op.nilCheck (Operand.tmp 78), type := 0, pos := "law.go:44", after := #[{ on := 25, ground := Ground.data }, { on := 22, ground := Ground.guard }], guard := some (22, false) }) (v := undef) rfl (by kernel_rfl) (by kernel_rfl) (by kernel_rfl) (fun _ _ _ h => h) (Or.inr ⟨by rfl, rfl⟩) hH0 ?_
      try simp only [Act.put, List.setIfInBounds_toArray, List.set_cons_zero, List.set_cons_succ]
      refine wpAnyH_take (i := 27) (oi := { dst := some 80, op := Op.fieldAddr 49 (Operand.tmp 79) 1, type := 0, pos := "law.go:44", after := #[{ on := 26, ground := Ground.data }, { on := 22, ground := Ground.guard }], guard := some (22, false) }) (v := undef) rfl (by kernel_rfl) (by kernel_rfl) (by kernel_rfl) (fun _ _ _ h => h) (Or.inr ⟨by rfl, rfl⟩) hH0 ?_
      try simp only [Act.put, List.setIfInBounds_toArray, List.set_cons_zero, List.set_cons_succ]
      refine wpAnyH_take (i := 28) (oi := { dst := some 81, op := Op.load 3 (Operand.tmp 80), type := 3, pos := "law.go:44", after := #[{ on := 27, ground := Ground.data }, { on := 22, ground := Ground.guard }], guard := some (22, false) }) (v := undef) rfl (by kernel_rfl) (by kernel_rfl) (by kernel_rfl) (fun _ _ _ h => h) (Or.inr ⟨by rfl, rfl⟩) hH0 ?_
      try simp only [Act.put, List.setIfInBounds_toArray, List.set_cons_zero, List.set_cons_succ]
      refine wpAnyH_take (i := 29) (oi := { dst := some 82, op := Op.binOp BinOp.eql 3 (Operand.tmp 77) (Operand.tmp 81) 3, type := 4, pos := "law.go:44", after := #[{ on := 24, ground := Ground.data }, { on := 28, ground := Ground.data }, { on := 22, ground := Ground.guard }], guard := some (22, false) }) (v := undef) rfl (by kernel_rfl) (by kernel_rfl) (by kernel_rfl) (fun _ _ _ h => h) (Or.inr ⟨by rfl, rfl⟩) hH0 ?_
      try simp only [Act.put, List.setIfInBounds_toArray, List.set_cons_zero, List.set_cons_succ]
      refine wpAnyH_take (i := 30) (oi := { dst := some 83, op := Op.pick (Operand.tmp 75) (Operand.const (Value.bool true)) (Operand.tmp 82), type := 4, pos := "law.go:44", after := #[{ on := 22, ground := Ground.data }, { on := 29, ground := Ground.data }, { on := 19, ground := Ground.guard }], guard := some (19, true) }) (v := ?_) rfl (by kernel_rfl) (by kernel_rfl) (by kernel_rfl) (fun _ _ _ h => h) (Or.inl ⟨by rfl, ?_⟩) hH0 ?_
      rotate_left
      · intro w' hw'
        obtain ⟨⟨s0, s1, s2, -, -, -, -⟩, ⟨t0, t1, t2, -, -, -, -⟩, x0⟩ := hw'
        go_simp
        try with_reducible rfl
      try simp only [Act.put, List.setIfInBounds_toArray, List.set_cons_zero, List.set_cons_succ]
      refine wpAnyH_take (i := 31) (oi := { dst := some 84, op := Op.pick (Operand.tmp 72) (Operand.tmp 83) (Operand.const (Value.bool false)), type := 4, pos := "law.go:44", after := #[{ on := 19, ground := Ground.data }, { on := 30, ground := Ground.data }], guard := none }) (v := ?_) rfl (by kernel_rfl) (by kernel_rfl) (by kernel_rfl) (fun _ _ _ h => h) (Or.inl ⟨by rfl, ?_⟩) hH0 ?_
      rotate_left
      · intro w' hw'
        obtain ⟨⟨s0, s1, s2, -, -, -, -⟩, ⟨t0, t1, t2, -, -, -, -⟩, x0⟩ := hw'
        go_simp
        try with_reducible rfl
      try simp only [Act.put, List.setIfInBounds_toArray, List.set_cons_zero, List.set_cons_succ]
      refine wpAnyH_take (i := 32) (oi := { dst := some 85, op := Op.move (Operand.tmp 84), type := 4, pos := "law.go:44", after := #[{ on := 31, ground := Ground.data }, { on := 24, ground := Ground.chain }], guard := none }) (v := ?_) rfl (by kernel_rfl) (by kernel_rfl) (by kernel_rfl) (fun _ _ _ h => h) (Or.inl ⟨by rfl, ?_⟩) hH0 ?_
      rotate_left
      · intro w' hw'
        obtain ⟨⟨s0, s1, s2, -, -, -, -⟩, ⟨t0, t1, t2, -, -, -, -⟩, x0⟩ := hw'
        go_simp
        try with_reducible rfl
      try simp only [Act.put, List.setIfInBounds_toArray, List.set_cons_zero, List.set_cons_succ]
      refine wpAnyH_ready (rs := [33]) (by kernel_rfl) (by simp) ?_
      refine AllReadyH.cons (o := { dst := some 86, op := Op.call { callee := Callee.value (Operand.func 19), args := #[], argTypes := #[] }, type := 4, pos := "law.go:44", after := #[{ on := 32, ground := Ground.chain }, { on := 32, ground := Ground.guard }], guard := some (32, true) }) rfl (fun K hK => ?_) AllReadyH.nil
      go_simp
      refine KW.out.mono ?_
      rintro e w8 ⟨rfl, b8⟩
      have b8' := hide (E6.out.drew.bel.trans (b8.mono E6.out.bel.size))
      refine hK.out _ _ ⟨X6.out.drew.kept b8 X6.out.lt, Y6.out.drew.kept b8 Y6.out.lt, (b8.cell (p := ⟨r, 1, none⟩) E6.out.rf.lt).trans E6.out.rf.c1⟩ (fun hH1 => ?_)
      clear hK
      try simp only [Act.put, List.setIfInBounds_toArray, List.set_cons_zero, List.set_cons_succ]
      refine wpAnyH_take (i := 34) (oi := { dst := some 87, op := Op.pick (Operand.tmp 85) (Operand.tmp 86) (Operand.const (Value.bool false)), type := 4, pos := "law.go:44", after := #[{ on := 32, ground := Ground.data }, { on := 33, ground := Ground.data }], guard := none }) (v := ?_) rfl (by kernel_rfl) (by kernel_rfl) (by kernel_rfl) (fun _ _ _ h => h) (Or.inl ⟨by rfl, ?_⟩) hH1 ?_
      rotate_left
      · intro w' hw'
        obtain ⟨⟨s0, s1, s2, -, -, -, -⟩, ⟨t0, t1, t2, -, -, -, -⟩, x0⟩ := hw'
        go_simp
        try with_reducible rfl
      try simp only [Act.put, List.setIfInBounds_toArray, List.set_cons_zero, List.set_cons_succ]
      refine wpAnyH_take (i := 35) (oi := { dst := some 6, op := Op.assign (Operand.tmp 87), type := 4, pos := "law.go:44", after := #[{ on := 34, ground := Ground.data }, { on := 33, ground := Ground.chain }, { on := 0, ground := Ground.phase }, { on := 1, ground := Ground.phase }, { on := 2, ground := Ground.phase }, { on := 3, ground := Ground.phase }, { on := 4, ground := Ground.phase }, { on := 5, ground := Ground.phase }, { on := 6, ground := Ground.phase }, { on := 7, ground := Ground.phase }, { on := 8, ground := Ground.phase }, { on := 9, ground := Ground.phase }, { on := 10, ground := Ground.phase }, { on := 11, ground := Ground.phase }, { on := 12, ground := Ground.phase }, { on := 13, ground := Ground.phase }, { on := 14, ground := Ground.phase }, { on := 15, ground := Ground.phase }, { on := 16, ground := Ground.phase }, { on := 17, ground := Ground.phase }, { on := 18, ground := Ground.phase }, { on := 19, ground := Ground.phase }, { on := 20, ground := Ground.phase }, { on := 21, ground := Ground.phase }, { on := 22, ground := Ground.phase }, { on := 23, ground := Ground.phase }, { on := 24, ground := Ground.phase }, { on := 25, ground := Ground.phase }, { on := 26, ground := Ground.phase }, { on := 27, ground := Ground.phase }, { on := 28, ground := Ground.phase }, { on := 29, ground := Ground.phase }, { on := 30, ground := Ground.phase }, { on := 31, ground := Ground.phase }, { on := 32, ground := Ground.phase }, { on := 33, ground := Ground.phase }, { on := 34, ground := Ground.phase }], guard := none }) (v := ?_) rfl (by kernel_rfl) (by kernel_rfl) (by kernel_rfl) (fun _ _ _ h => h) (Or.inl ⟨by rfl, ?_⟩) hH1 ?_
      rotate_left
      · intro w' hw'
        obtain ⟨⟨s0, s1, s2, -, -, -, -⟩, ⟨t0, t1, t2, -, -, -, -⟩, x0⟩ := hw'
        go_simp
        try with_reducible rfl
      try simp only [Act.put, List.setIfInBounds_toArray, List.set_cons_zero, List.set_cons_succ]
      refine wpAnyH_done (by kernel_rfl) ?_ _
      refine NoPanic.normal ?_
      go_wp2_with fail
      go_ret
      exact ⟨rfl, b8'.out⟩
    · obtain ⟨rfl, R4⟩ := h1 (by decide)
      have E4 := hide (E3.out.getq b4 R4)
      clear h0 h1 GY E3 S3 b4 R4
      simp only [show ((60 : Nat) : Int) = 60 from rfl]
      have E4a := hide (E4.out.below ((Below.refl w4.heap.size w4).alloc (Nat.le_refl _) (.cells #[.int .i64 0, .int .i64 0, .int .i64 0] 23)))
      have S4a := hide (S4.out.kept ((Below.refl w4.heap.size w4).alloc (Nat.le_refl _) (.cells #[.int .i64 0, .int .i64 0, .int .i64 0] 23)) S4.out.lt)
      have X4 := hide (Box3.new w4 (.int .i64 0) (.int .i64 0) (.int .i64 0) 23)
      have f9 : Hid (w4.heap.size ≠ r) := by have := E4.out.rf.lt; show _ ≠ _; omega
      have RZ := hide (RY.out _ E4a.out.rf E4a.out.H)
      clear E4 S4 s0 s1 s2
      have s0 := S4a.out.c0
      have s1 := S4a.out.c1
      have s2 := S4a.out.c2
      go_wp2_with fail
      refine RZ.out.mono ?_
      rintro e w5 ⟨er2, t2, kk2, hg2, -, h02, h12, b5⟩
      rw [hg] at hg2
      simp only [Prod.mk.injEq] at hg2
      obtain ⟨rfl, rfl, rfl⟩ := hg2
      obtain ⟨rfl, P3, R5⟩ := h12 (by decide)
      have E5 := hide (E4a.out.getr b5 R5)
      clear RZ RY E4a h02 h12 R5
      simp only [show ((60 : Nat) : Int) = 60 from rfl]
      replace hg := hide hg
      replace hn1 := hide hn1
      replace hqq := hide hqq
      have X5 := hide (X4.out.but b5 f9.out)
      have X6 := hide (X5.out.kept ((Below.refl w5.heap.size w5).alloc (Nat.le_refl _) (.cells #[.int .i64 0, .int .i64 0, .int .i64 0] 36)) X5.out.lt)
      have Y6 := hide (Box3.new w5 (.int .i64 0) (.int .i64 0) (.int .i64 0) 36)
      have E6 := hide (E5.out.below ((Below.refl w5.heap.size w5).alloc (Nat.le_refl _) (.cells #[.int .i64 0, .int .i64 0, .int .i64 0] 36)))
      clear X4 X5 E5 S4a s0 s1 s2 b5
      go_upto_region 8 with fail
      have heq : ∀ w, (binOp .eql 36 (.agg #[.int .i64 0, .int .i64 0, .int .i64 0]) (.agg #[.int .i64 0, .int .i64 0, .int .i64 0])).run Tryd.prog w = .ok (.bool true) w := fun w => by rw [run_eql36]; simp
      generalize w4.heap.size = g9 at *
      generalize w5.alloc (.cells #[.int .i64 0, .int .i64 0, .int .i64 0] 36) = w6 at *
      generalize w5.heap.size = g12 at *
      have KW := hide (works_any _ E6.out.drew.t)
      refine wp_region_noPanic ?_
      refine wp_region_held_drew (S := fun w' => Box3 w' g9 (.int .i64 0) (.int .i64 0) (.int .i64 0) ∧ Box3 w' g12 (.int .i64 0) (.int .i64 0) (.int .i64 0) ∧ w'.cell? ⟨r, 1, none⟩ = some (.int .i64 (P3 : Int))) (by kernel_rfl) ⟨X6.out.drew, Y6.out.drew, E6.out.rf.c1⟩ (fun hH0 => ?_)
      refine wpAnyH_take (i := 0) (oi := { dst := some 53, op := Op.fieldAddr 23 (Operand.tmp 9) 0, type := 0, pos := "law.go:44", after := #[], guard := none }) (v := ?_) rfl (by kernel_rfl) (by kernel_rfl) (by kernel_rfl) (fun _ _ _ h => h) (Or.inl ⟨by rfl, ?_⟩) hH0 ?_
      rotate_left
      · intro w' hw'
        obtain ⟨⟨s0, s1, s2, -, -, -, -⟩, ⟨t0, t1, t2, -, -, -, -⟩, x0⟩ := hw'
        go_simp
        try with_reducible rfl
      try simp only [Act.put, List.setIfInBounds_toArray, List.set_cons_zero, List.set_cons_succ]
      refine wpAnyH_take (i := 1) (oi := { dst := some 54, op := Op.load 3 (Operand.tmp 53), type := 3, pos := "law.go:44", after := #[{ on := 0, ground := Ground.data }], guard := none }) (v := ?_) rfl (by kernel_rfl) (by kernel_rfl) (by kernel_rfl) (fun _ _ _ h => h) (Or.inl ⟨by rfl, ?_⟩) hH0 ?_
      rotate_left
      · intro w' hw'
        obtain ⟨⟨s0, s1, s2, -, -, -, -⟩, ⟨t0, t1, t2, -, -, -, -⟩, x0⟩ := hw'
        go_simp
        try with_reducible rfl
      try simp only [Act.put, List.setIfInBounds_toArray, List.set_cons_zero, List.set_cons_succ]
      refine wpAnyH_take (i := 2) (oi := { dst := some 55, op := Op.fieldAddr 23 (Operand.tmp 9) 1, type := 0, pos := "law.go:44", after := #[], guard := none }) (v := ?_) rfl (by kernel_rfl) (by kernel_rfl) (by kernel_rfl) (fun _ _ _ h => h) (Or.inl ⟨by rfl, ?_⟩) hH0 ?_
      rotate_left
      · intro w' hw'
        obtain ⟨⟨s0, s1, s2, -, -, -, -⟩, ⟨t0, t1, t2, -, -, -, -⟩, x0⟩ := hw'
        go_simp
        try with_reducible rfl
      try simp only [Act.put, List.setIfInBounds_toArray, List.set_cons_zero, List.set_cons_succ]
      refine wpAnyH_take (i := 3) (oi := { dst := some 56, op := Op.load 3 (Operand.tmp 55), type := 3, pos := "law.go:44", after := #[{ on := 2, ground := Ground.data }], guard := none }) (v := ?_) rfl (by kernel_rfl) (by kernel_rfl) (by kernel_rfl) (fun _ _ _ h => h) (Or.inl ⟨by rfl, ?_⟩) hH0 ?_
      rotate_left
      · intro w' hw'
        obtain ⟨⟨s0, s1, s2, -, -, -, -⟩, ⟨t0, t1, t2, -, -, -, -⟩, x0⟩ := hw'
        go_simp
        try with_reducible rfl
      try simp only [Act.put, List.setIfInBounds_toArray, List.set_cons_zero, List.set_cons_succ]
      refine wpAnyH_take (i := 4) (oi := { dst := some 57, op := Op.fieldAddr 23 (Operand.tmp 9) 2, type := 0, pos := "law.go:44", after := #[], guard := none }) (v := ?_) rfl (by kernel_rfl) (by kernel_rfl) (by kernel_rfl) (fun _ _ _ h => h) (Or.inl ⟨by rfl, ?_⟩) hH0 ?_
      rotate_left
      · intro w' hw'
        obtain ⟨⟨s0, s1, s2, -, -, -, -⟩, ⟨t0, t1, t2, -, -, -, -⟩, x0⟩ := hw'
        go_simp
        try with_reducible rfl
      try simp only [Act.put, List.setIfInBounds_toArray, List.set_cons_zero, List.set_cons_succ]
      refine wpAnyH_take (i := 5) (oi := { dst := some 58, op := Op.load 3 (Operand.tmp 57), type := 3, pos := "law.go:44", after := #[{ on := 4, ground := Ground.data }], guard := none }) (v := ?_) rfl (by kernel_rfl) (by kernel_rfl) (by kernel_rfl) (fun _ _ _ h => h) (Or.inl ⟨by rfl, ?_⟩) hH0 ?_
      rotate_left
      · intro w' hw'
        obtain ⟨⟨s0, s1, s2, -, -, -, -⟩, ⟨t0, t1, t2, -, -, -, -⟩, x0⟩ := hw'
        go_simp
        try with_reducible rfl
      try simp only [Act.put, List.setIfInBounds_toArray, List.set_cons_zero, List.set_cons_succ]
      refine wpAnyH_take (i := 6) (oi := { dst := some 59, op := Op.build 36 #[(0, Operand.tmp 54), (1, Operand.tmp 56), (2, Operand.tmp 58)], type := 36, pos := "law.go:44", after := #[{ on := 1, ground := Ground.data }, { on := 3, ground := Ground.data }, { on := 5, ground := Ground.data }], guard := none }) (v := ?_) rfl (by kernel_rfl) (by kernel_rfl) (by kernel_rfl) (fun _ _ _ h => h) (Or.inl ⟨by rfl, ?_⟩) hH0 ?_
      rotate_left
      · intro w' hw'
        obtain ⟨⟨s0, s1, s2, -, -, -, -⟩, ⟨t0, t1, t2, -, -, -, -⟩, x0⟩ := hw'
        go_simp
        try with_reducible rfl
      try simp only [Act.put, List.setIfInBounds_toArray, List.set_cons_zero, List.set_cons_succ]
      refine wpAnyH_take (i := 7) (oi := { dst := some 60, op := Op.load 36 (Operand.tmp 12), type := 36, pos := "law.go:44", after := #[], guard := none }) (v := ?_) rfl (by kernel_rfl) (by kernel_rfl) (by kernel_rfl) (fun _ _ _ h => h) (Or.inl ⟨by rfl, ?_⟩) hH0 ?_
      rotate_left
      · intro w' hw'
        obtain ⟨⟨s0, s1, s2, -, -, -, -⟩, ⟨t0, t1, t2, -, -, -, -⟩, x0⟩ := hw'
        go_simp
        try with_reducible rfl
      try simp only [Act.put, List.setIfInBounds_toArray, List.set_cons_zero, List.set_cons_succ]
      refine wpAnyH_take (i := 8) (oi := { dst := some 61, op := Op.binOp BinOp.eql 36 (Operand.tmp 59) (Operand.tmp 60) 36, type := 4, pos := "law.go:44", after := #[{ on := 6, ground := Ground.data }, { on := 7, ground := Ground.data }], guard := none }) (v := ?_) rfl (by kernel_rfl) (by kernel_rfl) (by kernel_rfl) (fun _ _ _ h => h) (Or.inl ⟨by rfl, ?_⟩) hH0 ?_
      rotate_left
      · intro w' hw'
        obtain ⟨⟨s0, s1, s2, -, -, -, -⟩, ⟨t0, t1, t2, -, -, -, -⟩, x0⟩ := hw'
        go_simp
        try with_reducible rfl
      try simp only [Act.put, List.setIfInBounds_toArray, List.set_cons_zero, List.set_cons_succ]
      refine wpAnyH_take (i := 9) (oi := { dst := some 62, op := Op.move (Operand.tmp 61), type := 4, pos := "law.go:44", after := #[{ on := 8, ground := Ground.data }], guard := none }) (v := ?_) rfl (by kernel_rfl) (by kernel_rfl) (by kernel_rfl) (fun _ _ _ h => h) (Or.inl ⟨by rfl, ?_⟩) hH0 ?_
      rotate_left
      · intro w' hw'
        obtain ⟨⟨s0, s1, s2, -, -, -, -⟩, ⟨t0, t1, t2, -, -, -, -⟩, x0⟩ := hw'
        go_simp
        try with_reducible rfl
      try simp only [Act.put, List.setIfInBounds_toArray, List.set_cons_zero, List.set_cons_succ]
      refine wpAnyH_take (i := 10) (oi := { dst := some 63, op := Op.move (Operand.tmp 10), type := 3, pos := "law.go:44", after := #[{ on := 9, ground := Ground.guard }], guard := some (9, true) }) (v := ?_) rfl (by kernel_rfl) (by kernel_rfl) (by kernel_rfl) (fun _ _ _ h => h) (Or.inl ⟨by rfl, ?_⟩) hH0 ?_
      rotate_left
      · intro w' hw'
        obtain ⟨⟨s0, s1, s2, -, -, -, -⟩, ⟨t0, t1, t2, -, -, -, -⟩, x0⟩ := hw'
        go_simp
        try with_reducible rfl
      try simp only [Act.put, List.setIfInBounds_toArray, List.set_cons_zero, List.set_cons_succ]
      refine wpAnyH_take (i := 11) (oi := { dst := some 64, op := Op.move (Operand.tmp 13), type := 3, pos := "law.go:44", after := #[{ on := 9, ground := Ground.guard }], guard := some (9, true) }) (v := ?_) rfl (by kernel_rfl) (by kernel_rfl) (by kernel_rfl) (fun _ _ _ h => h) (Or.inl ⟨by rfl, ?_⟩) hH0 ?_
      rotate_left
      · intro w' hw'
        obtain ⟨⟨s0, s1, s2, -, -, -, -⟩, ⟨t0, t1, t2, -, -, -, -⟩, x0⟩ := hw'
        go_simp
        try with_reducible rfl
      try simp only [Act.put, List.setIfInBounds_toArray, List.set_cons_zero, List.set_cons_succ]
      refine wpAnyH_take (i := 12) (oi := { dst := some 65, op := Op.binOp BinOp.eql 3 (Operand.tmp 63) (Operand.tmp 64) 3, type := 4, pos := "law.go:44", after := #[{ on := 10, ground := Ground.data }, { on := 11, ground := Ground.data }, { on := 9, ground := Ground.guard }], guard := some (9, true) }) (v := ?_) rfl (by kernel_rfl) (by kernel_rfl) (by kernel_rfl) (fun _ _ _ h => h) (Or.inl ⟨by rfl, ?_⟩) hH0 ?_
      rotate_left
      · intro w' hw'
        obtain ⟨⟨s0, s1, s2, -, -, -, -⟩, ⟨t0, t1, t2, -, -, -, -⟩, x0⟩ := hw'
        go_simp
        try with_reducible rfl
      try simp only [Act.put, List.setIfInBounds_toArray, List.set_cons_zero, List.set_cons_succ]
      refine wpAnyH_take (i := 13) (oi := { dst := some 66, op := Op.pick (Operand.tmp 62) (Operand.tmp 65) (Operand.const (Value.bool false)), type := 4, pos := "law.go:44", after := #[{ on := 9, ground := Ground.data }, { on := 12, ground := Ground.data }], guard := none }) (v := ?_) rfl (by kernel_rfl) (by kernel_rfl) (by kernel_rfl) (fun _ _ _ h => h) (Or.inl ⟨by rfl, ?_⟩) hH0 ?_
      rotate_left
      · intro w' hw'
        obtain ⟨⟨s0, s1, s2, -, -, -, -⟩, ⟨t0, t1, t2, -, -, -, -⟩, x0⟩ := hw'
        go_simp
        try with_reducible rfl
      try simp only [Act.put, List.setIfInBounds_toArray, List.set_cons_zero, List.set_cons_succ]
      refine wpAnyH_take (i := 14) (oi := { dst := some 67, op := Op.move (Operand.tmp 66), type := 4, pos := "law.go:44", after := #[{ on := 13, ground := Ground.data }, { on := 9, ground := Ground.chain }], guard := none }) (v := ?_) rfl (by kernel_rfl) (by kernel_rfl) (by kernel_rfl) (fun _ _ _ h => h) (Or.inl ⟨by rfl, ?_⟩) hH0 ?_
      rotate_left
      · intro w' hw'
        obtain ⟨⟨s0, s1, s2, -, -, -, -⟩, ⟨t0, t1, t2, -, -, -, -⟩, x0⟩ := hw'
        go_simp
        try with_reducible rfl
      try simp only [Act.put, List.setIfInBounds_toArray, List.set_cons_zero, List.set_cons_succ]
      refine wpAnyH_take (i := 15) (oi := { dst := some 68, op := Op.move (Operand.tmp 11), type := 31, pos := "law.go:44", after := #[{ on := 14, ground := Ground.guard }], guard := some (14, true) }) (v := ?_) rfl (by kernel_rfl) (by kernel_rfl) (by kernel_rfl) (fun _ _ _ h => h) (Or.inl ⟨by rfl, ?_⟩) hH0 ?_
      rotate_left
      · intro w' hw'
        obtain ⟨⟨s0, s1, s2, -, -, -, -⟩, ⟨t0, t1, t2, -, -, -, -⟩, x0⟩ := hw'
        go_simp
        try with_reducible rfl
      try simp only [Act.put, List.setIfInBounds_toArray, List.set_cons_zero, List.set_cons_succ]
      refine wpAnyH_take (i := 16) (oi := { dst := some 69, op := Op.move (Operand.tmp 14), type := 31, pos := "law.go:44", after := #[{ on := 14, ground := Ground.guard }], guard := some (14, true) }) (v := ?_) rfl (by kernel_rfl) (by kernel_rfl) (by kernel_rfl) (fun _ _ _ h => h) (Or.inl ⟨by rfl, ?_⟩) hH0 ?_
      rotate_left
      · intro w' hw'
        obtain ⟨⟨s0, s1, s2, -, -, -, -⟩, ⟨t0, t1, t2, -, -, -, -⟩, x0⟩ := hw'
        go_simp
        try with_reducible rfl
      try simp only [Act.put, List.setIfInBounds_toArray, List.set_cons_zero, List.set_cons_succ]
      refine wpAnyH_take (i := 17) (oi := { dst := some 70, op := Op.binOp BinOp.eql 31 (Operand.tmp 68) (Operand.tmp 69) 31, type := 4, pos := "law.go:44", after := #[{ on := 15, ground := Ground.data }, { on := 16, ground := Ground.data }, { on := 14, ground := Ground.guard }], guard := some (14, true) }) (v := ?_) rfl (by kernel_rfl) (by kernel_rfl) (by kernel_rfl) (fun _ _ _ h => h) (Or.inl ⟨by rfl, ?_⟩) hH0 ?_
      rotate_left
      · intro w' hw'
        obtain ⟨⟨s0, s1, s2, -, -, -, -⟩, ⟨t0, t1, t2, -, -, -, -⟩, x0⟩ := hw'
        go_simp
        try with_reducible rfl
      try simp only [Act.put, List.setIfInBounds_toArray, List.set_cons_zero, List.set_cons_succ]
      refine wpAnyH_take (i := 18) (oi := { dst := some 71, op := Op.pick (Operand.tmp 67) (Operand.tmp 70) (Operand.const (Value.bool false)), type := 4, pos := "law.go:44", after := #[{ on := 14, ground := Ground.data }, { on := 17, ground := Ground.data }], guard := none }) (v := ?_) rfl (by kernel_rfl) (by kernel_rfl) (by kernel_rfl) (fun _ _ _ h => h) (Or.inl ⟨by rfl, ?_⟩) hH0 ?_
      rotate_left
      · intro w' hw'
        obtain ⟨⟨s0, s1, s2, -, -, -, -⟩, ⟨t0, t1, t2, -, -, -, -⟩, x0⟩ := hw'
        go_simp
        try with_reducible rfl
      try simp only [Act.put, List.setIfInBounds_toArray, List.set_cons_zero, List.set_cons_succ]
      refine wpAnyH_take (i := 19) (oi := { dst := some 72, op := Op.move (Operand.tmp 71), type := 4, pos := "law.go:44", after := #[{ on := 18, ground := Ground.data }, { on := 14, ground := Ground.chain }], guard := none }) (v := ?_) rfl (by kernel_rfl) (by kernel_rfl) (by kernel_rfl) (fun _ _ _ h => h) (Or.inl ⟨by rfl, ?_⟩) hH0 ?_
      rotate_left
      · intro w' hw'
        obtain ⟨⟨s0, s1, s2, -, -, -, -⟩, ⟨t0, t1, t2, -, -, -, -⟩, x0⟩ := hw'
        go_simp
        try with_reducible rfl
      try simp only [Act.put, List.setIfInBounds_toArray, List.set_cons_zero, List.set_cons_succ]
      refine wpAnyH_take (i := 20) (oi := { dst := some 73, op := Op.move (Operand.tmp 11), type := 31, pos := "law.go:44", after := #[{ on := 19, ground := Ground.guard }], guard := some (19, true) }) (v := ?_) rfl (by kernel_rfl) (by kernel_rfl) (by kernel_rfl) (fun _ _ _ h => h) (Or.inl ⟨by rfl, ?_⟩) hH0 ?_
      rotate_left
      · intro w' hw'
        obtain ⟨⟨s0, s1, s2, -, -, -, -⟩, ⟨t0, t1, t2, -, -, -, -⟩, x0⟩ := hw'
        go_simp
        try with_reducible rfl
      try simp only [Act.put, List.setIfInBounds_toArray, List.set_cons_zero, List.set_cons_succ]
      refine wpAnyH_take (i := 21) (oi := { dst := some 74, op := Op.binOp BinOp.neq 31 (Operand.tmp 73) (Operand.const (Value.int IntKind.i64 0)) 31, type := 4, pos := "law.go:44", after := #[{ on := 20, ground := Ground.data }, { on := 19, ground := Ground.guard }], guard := some (19, true) }) (v := ?_) rfl (by kernel_rfl) (by kernel_rfl) (by kernel_rfl) (fun _ _ _ h => h) (Or.inl ⟨by rfl, ?_⟩) hH0 ?_
      rotate_left
      · intro w' hw'
        obtain ⟨⟨s0, s1, s2, -, -, -, -⟩, ⟨t0, t1, t2, -, -, -, -⟩, x0⟩ := hw'
        go_simp
        try with_reducible rfl
      try simp only [Act.put, List.setIfInBounds_toArray, List.set_cons_zero, List.set_cons_succ]
      refine wpAnyH_take (i := 22) (oi := { dst := some 75, op := Op.move (Operand.tmp 74), type := 4, pos := "law.go:44", after := #[{ on := 21, ground := Ground.data }, { on := 19, ground := Ground.chain }, { on := 19, ground := Ground.guard }], guard := some (19, true) }) (v := ?_) rfl (by kernel_rfl) (by kernel_rfl) (by kernel_rfl) (fun _ _ _ h => h) (Or.inl ⟨by rfl, ?_⟩) hH0 ?_
      rotate_left
      · intro w' hw'
        obtain ⟨⟨s0, s1, s2, -, -, -, -⟩, ⟨t0, t1, t2, -, -, -, -⟩, x0⟩ := hw'
        go_simp
        try with_reducible rfl
      try simp only [Act.put, List.setIfInBounds_toArray, List.set_cons_zero, List.set_cons_succ]
      refine wpAnyH_take (i := 23) (oi := { dst := some 76, op := Op.move (Operand.tmp 7), type := 45, pos := "law.go:44", after := #[{ on := 22, ground := Ground.guard }], guard := some (22, false) }) (v := undef) rfl (by kernel_rfl) (by kernel_rfl) (by kernel_rfl) (fun _ _ _ h => h) (Or.inr ⟨by rfl, rfl⟩) hH0 ?_
      try simp only [Act.put, List.setIfInBounds_toArray, List.set_cons_zero, List.set_cons_succ]
      refine wpAnyH_take (i := 24) (oi := { dst := some 77, op := Op.call { callee := Callee.value (Operand.func 25), args := #[Operand.tmp 76], argTypes := #[45] }, type := 3, pos := "law.go:44", after := #[{ on := 23, ground := Ground.data }, { on := 22, ground := Ground.chain }, { on := 22, ground := Ground.guard }], guard := some (22, false) }) (v := undef) rfl (by kernel_rfl) (by kernel_rfl) (by kernel_rfl) (fun _ _ _ h => h) (Or.inr ⟨by rfl, rfl⟩) hH0 ?_
      try simp only [Act.put, List.setIfInBounds_toArray, List.set_cons_zero, List.set_cons_succ]
      refine wpAnyH_take (i := 25) (oi := { dst := some 78, op := Op.move (Operand.tmp 8), type := 47, pos := "law.go:44", after := #[{ on := 22, ground := Ground.guard }], guard := some (22, false) }) (v := undef) rfl (by kernel_rfl) (by kernel_rfl) (by kernel_rfl) (fun _ _ _ h => h) (Or.inr ⟨by rfl, rfl⟩) hH0 ?_
      try simp only [Act.put, List.setIfInBounds_toArray, List.set_cons_zero, List.set_cons_succ]
      refine wpAnyH_take (i := 26) (oi := { dst := some 79, op := Op.nilCheck (Operand.tmp 78), type := 0, pos := "law.go:44", after := #[{ on := 25, ground := Ground.data }, { on := 22, ground := Ground.guard }], guard := some (22, false) }) (v := undef) rfl (by kernel_rfl) (by kernel_rfl) (by kernel_rfl) (fun _ _ _ h => h) (Or.inr ⟨by rfl, rfl⟩) hH0 ?_
      try simp only [Act.put, List.setIfInBounds_toArray, List.set_cons_zero, List.set_cons_succ]
      refine wpAnyH_take (i := 27) (oi := { dst := some 80, op := Op.fieldAddr 49 (Operand.tmp 79) 1, type := 0, pos := "law.go:44", after := #[{ on := 26, ground := Ground.data }, { on := 22, ground := Ground.guard }], guard := some (22, false) }) (v := undef) rfl (by kernel_rfl) (by kernel_rfl) (by kernel_rfl) (fun _ _ _ h => h) (Or.inr ⟨by rfl, rfl⟩) hH0 ?_
      try simp only [Act.put, List.setIfInBounds_toArray, List.set_cons_zero, List.set_cons_succ]
      refine wpAnyH_take (i := 28) (oi := { dst := some 81, op := Op.load 3 (Operand.tmp 80), type := 3, pos := "law.go:44", after := #[{ on := 27, ground := Ground.data }, { on := 22, ground := Ground.guard }], guard := some (22, false) }) (v := undef) rfl (by kernel_rfl) (by kernel_rfl) (by kernel_rfl) (fun _ _ _ h => h) (Or.inr ⟨by rfl, rfl⟩) hH0 ?_
      try simp only [Act.put, List.setIfInBounds_toArray, List.set_cons_zero, List.set_cons_succ]
      refine wpAnyH_take (i := 29) (oi := { dst := some 82, op := Op.binOp BinOp.eql 3 (Operand.tmp 77) (Operand.tmp 81) 3, type := 4, pos := "law.go:44", after := #[{ on := 24, ground := Ground.data }, { on := 28, ground := Ground.data }, { on := 22, ground := Ground.guard }], guard := some (22, false) }) (v := undef) rfl (by kernel_rfl) (by kernel_rfl) (by kernel_rfl) (fun _ _ _ h => h) (Or.inr ⟨by rfl, rfl⟩) hH0 ?_
      try simp only [Act.put, List.setIfInBounds_toArray, List.set_cons_zero, List.set_cons_succ]
      refine wpAnyH_take (i := 30) (oi := { dst := some 83, op := Op.pick (Operand.tmp 75) (Operand.const (Value.bool true)) (Operand.tmp 82), type := 4, pos := "law.go:44", after := #[{ on := 22, ground := Ground.data }, { on := 29, ground := Ground.data }, { on := 19, ground := Ground.guard }], guard := some (19, true) }) (v := ?_) rfl (by kernel_rfl) (by kernel_rfl) (by kernel_rfl) (fun _ _ _ h => h) (Or.inl ⟨by rfl, ?_⟩) hH0 ?_
      rotate_left
      · intro w' hw'
        obtain ⟨⟨s0, s1, s2, -, -, -, -⟩, ⟨t0, t1, t2, -, -, -, -⟩, x0⟩ := hw'
        go_simp
        try with_reducible rfl
      try simp only [Act.put, List.setIfInBounds_toArray, List.set_cons_zero, List.set_cons_succ]
      refine wpAnyH_take (i := 31) (oi := { dst := some 84, op := Op.pick (Operand.tmp 72) (Operand.tmp 83) (Operand.const (Value.bool false)), type := 4, pos := "law.go:44", after := #[{ on := 19, ground := Ground.data }, { on := 30, ground := Ground.data }], guard := none }) (v := ?_) rfl (by kernel_rfl) (by kernel_rfl) (by kernel_rfl) (fun _ _ _ h => h) (Or.inl ⟨by rfl, ?_⟩) hH0 ?_
      rotate_left
      · intro w' hw'
        obtain ⟨⟨s0, s1, s2, -, -, -, -⟩, ⟨t0, t1, t2, -, -, -, -⟩, x0⟩ := hw'
        go_simp
        try with_reducible rfl
      try simp only [Act.put, List.setIfInBounds_toArray, List.set_cons_zero, List.set_cons_succ]
      refine wpAnyH_take (i := 32) (oi := { dst := some 85, op := Op.move (Operand.tmp 84), type := 4, pos := "law.go:44", after := #[{ on := 31, ground := Ground.data }, { on := 24, ground := Ground.chain }], guard := none }) (v := ?_) rfl (by kernel_rfl) (by kernel_rfl) (by kernel_rfl) (fun _ _ _ h => h) (Or.inl ⟨by rfl, ?_⟩) hH0 ?_
      rotate_left
      · intro w' hw'
        obtain ⟨⟨s0, s1, s2, -, -, -, -⟩, ⟨t0, t1, t2, -, -, -, -⟩, x0⟩ := hw'
        go_simp
        try with_reducible rfl
      try simp only [Act.put, List.setIfInBounds_toArray, List.set_cons_zero, List.set_cons_succ]
      refine wpAnyH_ready (rs := [33]) (by kernel_rfl) (by simp) ?_
      refine AllReadyH.cons (o := { dst := some 86, op := Op.call { callee := Callee.value (Operand.func 19), args := #[], argTypes := #[] }, type := 4, pos := "law.go:44", after := #[{ on := 32, ground := Ground.chain }, { on := 32, ground := Ground.guard }], guard := some (32, true) }) rfl (fun K hK => ?_) AllReadyH.nil
      go_simp
      refine KW.out.mono ?_
      rintro e w8 ⟨rfl, b8⟩
      have b8' := hide (E6.out.drew.bel.trans (b8.mono E6.out.bel.size))
      refine hK.out _ _ ⟨X6.out.drew.kept b8 X6.out.lt, Y6.out.drew.kept b8 Y6.out.lt, (b8.cell (p := ⟨r, 1, none⟩) E6.out.rf.lt).trans E6.out.rf.c1⟩ (fun hH1 => ?_)
      clear hK
      try simp only [Act.put, List.setIfInBounds_toArray, List.set_cons_zero, List.set_cons_succ]
      refine wpAnyH_take (i := 34) (oi := { dst := some 87, op := Op.pick (Operand.tmp 85) (Operand.tmp 86) (Operand.const (Value.bool false)), type := 4, pos := "law.go:44", after := #[{ on := 32, ground := Ground.data }, { on := 33, ground := Ground.data }], guard := none }) (v := ?_) rfl (by kernel_rfl) (by kernel_rfl) (by kernel_rfl) (fun _ _ _ h => h) (Or.inl ⟨by rfl, ?_⟩) hH1 ?_
      rotate_left
      · intro w' hw'
        obtain ⟨⟨s0, s1, s2, -, -, -, -⟩, ⟨t0, t1, t2, -, -, -, -⟩, x0⟩ := hw'
        go_simp
        try with_reducible rfl
      try simp only [Act.put, List.setIfInBounds_toArray, List.set_cons_zero, List.set_cons_succ]
      refine wpAnyH_take (i := 35) (oi := { dst := some 6, op := Op.assign (Operand.tmp 87), type := 4, pos := "law.go:44", after := #[{ on := 34, ground := Ground.data }, { on := 33, ground := Ground.chain }, { on := 0, ground := Ground.phase }, { on := 1, ground := Ground.phase }, { on := 2, ground := Ground.phase }, { on := 3, ground := Ground.phase }, { on := 4, ground := Ground.phase }, { on := 5, ground := Ground.phase }, { on := 6, ground := Ground.phase }, { on := 7, ground := Ground.phase }, { on := 8, ground := Ground.phase }, { on := 9, ground := Ground.phase }, { on := 10, ground := Ground.phase }, { on := 11, ground := Ground.phase }, { on := 12, ground := Ground.phase }, { on := 13, ground := Ground.phase }, { on := 14, ground := Ground.phase }, { on := 15, ground := Ground.phase }, { on := 16, ground := Ground.phase }, { on := 17, ground := Ground.phase }, { on := 18, ground := Ground.phase }, { on := 19, ground := Ground.phase }, { on := 20, ground := Ground.phase }, { on := 21, ground := Ground.phase }, { on := 22, ground := Ground.phase }, { on := 23, ground := Ground.phase }, { on := 24, ground := Ground.phase }, { on := 25, ground := Ground.phase }, { on := 26, ground := Ground.phase }, { on := 27, ground := Ground.phase }, { on := 28, ground := Ground.phase }, { on := 29, ground := Ground.phase }, { on := 30, ground := Ground.phase }, { on := 31, ground := Ground.phase }, { on := 32, ground := Ground.phase }, { on := 33, ground := Ground.phase }, { on := 34, ground := Ground.phase }], guard := none }) (v := ?_) rfl (by kernel_rfl) (by kernel_rfl) (by kernel_rfl) (fun _ _ _ h => h) (Or.inl ⟨by rfl, ?_⟩) hH1 ?_
      rotate_left
      · intro w' hw'
        obtain ⟨⟨s0, s1, s2, -, -, -, -⟩, ⟨t0, t1, t2, -, -, -, -⟩, x0⟩ := hw'
        go_simp
        try with_reducible rfl
      try simp only [Act.put, List.setIfInBounds_toArray, List.set_cons_zero, List.set_cons_succ]
      refine wpAnyH_done (by kernel_rfl) ?_ _
      refine NoPanic.normal ?_
      go_wp2_with fail
      go_ret
      exact ⟨rfl, b8'.out⟩

theorem gets_walk (a0 : Option Addr) (len0 cap0 : Nat) (l0 : List Int) (n l d k0 : Int) (w : World) (ht : Tab w) (HB : Has w a0 len0 cap0 l0) (wk : (Lit.int .i64 k0).wf = true) :
    Calls Tryd.prog 4 #[.slice a0 len0 cap0, .agg #[.int .i64 n, .int .i64 l, .int .i64 d], .int .i64 k0] w fun e w' => e = .returned (.bool true) ∧ Below w.heap.size w w' := by
  have ek : (if (100 : Int) < (len0 : Int) then 100 else (len0 : Int)) = ((min len0 100 : Nat) : Int) := by split <;> omega
  exact gets_walk0 a0 len0 cap0 _ _ n l d k0 w ht (HB.front (min len0 100) (by omega)) (by omega) HB.le HB.capb ek wk
end Go.Proofs.YtpopkoedeckfoaaDoor
