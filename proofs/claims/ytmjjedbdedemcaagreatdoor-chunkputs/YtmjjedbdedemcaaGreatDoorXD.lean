/-
  Values: noughts, forms, numbers put.
-/
import Derived.Test.YtmjjedbdedemcaaGreatDoorXC
import Derived.Laws.Bits64b
namespace Go.Proofs.YtmjjedbdedemcaaGreatDoor
open Go.RowKit
set_option linter.unusedVariables false

set_option linter.unusedSimpArgs false

theorem len_of {x : Nat} {n : Int} (h0 : 0 < x) (hx : x < 18446744073709551616) (h : IsLen (x : Int) n) : n = 64 - ((lz x : Nat) : Int) := by
  obtain ⟨h1, h2, h3, h4⟩ := h
  obtain ⟨m, rfl⟩ := Int.eq_ofNat_of_zero_le h1
  simp only [Int.toNat_natCast] at h3 h4
  have h3' : x < 2 ^ m := by exact_mod_cast h3
  have hm : 0 < m := by
    rcases Nat.eq_zero_or_pos m with rfl | h
    · simp at h3'; omega
    · exact h
  have h4' : 2 ^ (m - 1) ≤ x := by exact_mod_cast h4 (by omega)
  have e : lz x = 64 - m := lz_eq (by omega) (by rw [show 63 - (64 - m) = m - 1 by omega]; exact h4') (by rw [show 64 - (64 - m) = m by omega]; exact h3')
  omega
theorem len_all {n : Int} (h : IsLen 18446744073709551615 n) : n = 64 := by
  have := len_of (x := 18446744073709551615) (by decide) (by decide) h
  rw [this]
  decide +kernel

/-- The table of the library lies in memory as its text lays it. -/
def TabX (w : World) : Prop := ∀ j, j < 64 → w.cell? ⟨2, j, none⟩ = some (.int .u8 ((Lib.deBruijn64tab.getD j 0 : Nat) : Int))
theorem TabX.pos {w : World} (h : TabX w) : 2 < w.heap.size := World.block_lt_of_cell? w _ (h 0 (by decide))
theorem TabX.kept {w w' : World} {B : Nat} (h : TabX w) (hb : Below B w w') (hB : 2 < B) : TabX w' := fun i hi => (hb.cell (p := ⟨2, i, none⟩) hB).trans (h i hi)
theorem TabX.below {w w' : World} (h : TabX w) (hb : Below w.heap.size w w') : TabX w' := h.kept hb h.pos

theorem tz_key (x a : Nat) (hx : x < 18446744073709551616) (hx0 : x ≠ 0) (hlow : x &&& (18446744073709551616 - x) = a) :
    IntKind.u64.wrap (bits BinOp.and IntKind.u64 (x : Int) (IntKind.u64.wrap (-(x : Int))) * 285870213051353865) / 288230376151711744 = ((a * 285870213051353865 % 18446744073709551616 / 288230376151711744 : Nat) : Int) := by
  have e1 : IntKind.u64.wrap (-(x : Int)) = ((18446744073709551616 - x : Nat) : Int) := by rw [IntKind.wrap_u64]; omega
  rw [e1, u64_and_nat x _ hx (by omega), hlow, IntKind.wrap_u64]
  omega

set_option maxHeartbeats 1000000 in
theorem tz_core (x k idx : Nat) (w : World) (hx0 : ((x : Int) == 0) = false)
    (key : IntKind.u64.wrap (bits BinOp.and IntKind.u64 (x : Int) (IntKind.u64.wrap (-(x : Int))) * 285870213051353865) / 288230376151711744 = (idx : Int))
    (hi : idx < 64) (hk : k < 64) (hcell : w.cell? ⟨2, idx, none⟩ = some (.int .u8 k)) :
    Calls Tryz.prog 108 #[.int .u64 (x : Int)] w fun e w' => e = .returned (.int .i64 (k : Int)) ∧ w' = w := by
  go_enter Tryz.func108, Tryz.ntmps108
  go_wp2_with (simp only [key])
  go_ret
  exact ⟨rfl, rfl⟩
theorem low_bitX (x : Nat) (h0 : 0 < x) (hx : x < 18446744073709551616) : x &&& (18446744073709551616 - x) = 2 ^ tz x ∧ tz x < 64 := Lib.lowest_bit 64 x (by omega) hx
theorem tz_any (x : Nat) (w : World) (h0 : 0 < x) (hx : x < 18446744073709551616) (hT : TabX w) :
    Calls Tryz.prog 108 #[.int .u64 (x : Int)] w fun e w' => e = .returned (.int .i64 ((tz x : Nat) : Int)) ∧ w' = w := by
  obtain ⟨hlow, hk⟩ := low_bitX x h0 hx
  obtain ⟨hi, htab⟩ := Lib.deBruijn64_at _ hk
  have hcell := hT _ hi
  rw [htab] at hcell
  exact tz_core x _ _ w (by simp; omega) (tz_key x _ hx (by omega) hlow) hi hk hcell

set_option maxHeartbeats 1000000 in
theorem noughts_any (x : Nat) (w : World) (h0 : 0 < x) (hx : x < 18446744073709551616) (hT : TabX w) :
    Calls Tryz.prog 102 #[.int .u64 (x : Int)] w fun e w' => e = .returned (.agg #[.int .i64 ((lz x : Nat) : Int), .int .i64 ((tz x : Nat) : Int)]) ∧ Below w.heap.size w w' := by
  have XX := Bx.new w 116 #[.int .i64 0, .int .i64 0]
  have B0 : Hid (Below w.heap.size w (w.alloc (.cells #[.int .i64 0, .int .i64 0] 116))) := (Below.refl _ w).alloc (Nat.le_refl _) _
  have X2 := (XX.set2 (.int .i64 ((lz x : Nat) : Int)) (.int .i64 ((tz x : Nat) : Int))).st2
  obtain ⟨p0, p1, p2, p3, p4⟩ := XX.st2
  have o0 := X2.c0
  have o1 := X2.c1
  have b2 := hide (below_set2 B0.out (Nat.le_refl _) (.int .i64 ((lz x : Nat) : Int)) (.int .i64 ((tz x : Nat) : Int)))
  have T1 := hide (tz_any x _ h0 hx (hT.below B0.out))
  have hL := hide (fun n => len_of (n := n) h0 hx)
  have hlz := lz_le x
  have L1 := hide (fun w => len64_any (x : Int) w (by omega) (by omega))
  have L0 := hide (fun w => len64_any 18446744073709551615 w (by decide) (by decide))
  have e0 : bits BinOp.xor IntKind.u64 IntKind.u64.max 0 = 18446744073709551615 := by decide +kernel
  clear X2 hT
  generalize lz x = A at *
  generalize tz x = B at *
  have hA : (A : Int) ≤ 63 := by omega
  go_enter Tryz.func102, Tryz.ntmps102
  go_wp2_with fail
  refine (L0.out _).mono ?_
  rintro e wq ⟨n, rfl, rfl, hn⟩
  obtain rfl := len_all hn
  go_wp2_with fail
  refine (L1.out _).mono ?_
  rintro e wq ⟨n, rfl, rfl, hn⟩
  obtain rfl := hL.out n hn
  clear hn
  have e1 : (64 : Int) - (64 - (A : Int)) = (A : Int) := by omega
  go_wp2_with fail
  refine T1.out.mono ?_
  rintro e wq ⟨rfl, rfl⟩
  go_wp2_with fail
  refine bodyPost_ret (v := .agg #[.int .i64 (A : Int), .int .i64 (B : Int)]) (by simp [results, Tryz.f102, go_sem, o0, o1]) rfl ?_
  exact ⟨rfl, by first | exact b2.out | exact (Below.refl _ w).alloc (Nat.le_refl _) _⟩
set_option linter.unusedSimpArgs false

set_option maxHeartbeats 1000000 in
theorem formOf_any (x a b : Nat) (w : World) (hx : x < 18446744073709551616) (ha : a ≤ 64) (hb : b ≤ 64) (hT : TabX w) :
    Calls Tryz.prog 94 #[.int .u64 (x : Int), .agg #[.int .i64 (a : Int), .int .i64 (b : Int)]] w fun e w' => e = .returned (.agg #[.int .i64 ((dM a b x : Nat) : Int), .int .i64 ((dA a b x : Nat) : Int), .int .i64 ((dB a b x : Nat) : Int)]) ∧ Below w.heap.size w w' := by
  have X0 := Bx.new w 116 #[.int .i64 (a : Int), .int .i64 (b : Int)]
  have B0 : Below w.heap.size w (w.alloc (.cells #[.int .i64 (a : Int), .int .i64 (b : Int)] 116)) := (Below.refl _ w).alloc (Nat.le_refl _) _
  have Y0 := Bx.new_at (w := w.alloc (.cells #[.int .i64 (a : Int), .int .i64 (b : Int)] 116)) (g := w.heap.size + 1) (by simp) 153 #[.int .i64 0, .int .i64 0, .int .i64 0]
  have B1 := hide (B0.alloc B0.size (.cells #[.int .i64 0, .int .i64 0, .int .i64 0] 153))
  have X1 := hide (X0.alloc (.cells #[.int .i64 0, .int .i64 0, .int .i64 0] 153))
  by_cases h0 : x = 0
  · subst h0
    have e1 : dM a b 0 = 0 := by simp [dM]
    have e2 : dA a b 0 = a := by simp [dA]
    have e3 : dB a b 0 = b := by simp [dB]
    rw [e1, e2, e3]
    have X3 := (Y0.set3 (.int .i64 0) (.int .i64 (a : Int)) (.int .i64 (b : Int))).st3
    obtain ⟨p0, p1, p2, p3, p4, p5, p6, p7⟩ := Y0.st3
    have o0 := X3.c0
    have o1 := X3.c1
    have o2 := X3.c2
    clear X3
    simp only [show ((0 : Nat) : Int) = 0 from rfl]
    go_enter Tryz.func94, Tryz.ntmps94
    go_wp2_with fail
    refine bodyPost_ret (v := .agg #[.int .i64 0, .int .i64 (a : Int), .int .i64 (b : Int)]) (by simp [results, Tryz.f94, go_sem, o0, o1, o2]) rfl ?_
    exact ⟨rfl, B0.alloc B0.size _⟩
  · have NO := hide (noughts_any x _ (by omega) hx (hT.below (B0.alloc B0.size (.cells #[.int .i64 0, .int .i64 0, .int .i64 0] 153))))
    have i0 : ¬ (x : Int) = 0 := by omega
    replace Y0 := hide Y0
    clear hT X0 B0
    by_cases hin : inW a b x
    · have e1 : dM a b x = 2 := by simp [dM, h0, hin]
      have e2 : dA a b x = a := by simp [dA, h0, hin]
      have e3 : dB a b x = b := by simp [dB, h0, hin]
      rw [e1, e2, e3]
      obtain ⟨hi1, hi2⟩ := hin
      clear e1 e2 e3
      generalize lz x = A at *
      generalize tz x = B at *
      have d1 : (a : Int) ≤ (A : Int) := by omega
      have d2 : (b : Int) ≤ (B : Int) := by omega
      go_enter Tryz.func94, Tryz.ntmps94
      go_wp2_with fail
      refine NO.out.mono ?_
      rintro e w2 ⟨rfl, b2⟩
      have X2 := hide ((X1.out.below b2).alloc (.cells #[.int .i64 (A : Int), .int .i64 (B : Int)] 116))
      have Y2 := hide ((Y0.out.below b2).alloc (.cells #[.int .i64 (A : Int), .int .i64 (B : Int)] 116))
      have B2 := B1.out.trans (b2.mono B1.out.size)
      have B3 := hide (B2.alloc B2.size (.cells #[.int .i64 (A : Int), .int .i64 (B : Int)] 116))
      have b4 := hide (below_set3X (g := w.heap.size + 1) B3.out (by omega) (.int .i64 2) (.int .i64 (a : Int)) (.int .i64 (b : Int)))
      have X3 := (Y2.out.set3 (.int .i64 2) (.int .i64 (a : Int)) (.int .i64 (b : Int))).st3
      obtain ⟨p0, p1, p2, p3, p4, p5, p6, p7⟩ := Y2.out.st3
      have o0 := X3.c0
      have o1 := X3.c1
      have o2 := X3.c2
      have q0 := X2.out.st2.c0
      have q1 := X2.out.st2.c1
      clear X3 NO B1 X1 Y0 b2 B2
      go_wp2_with fail
      refine bodyPost_ret (v := .agg #[.int .i64 2, .int .i64 (a : Int), .int .i64 (b : Int)]) (by simp [results, Tryz.f94, go_sem, o0, o1, o2]) rfl ?_
      exact ⟨rfl, b4.out⟩
    · have e1 : dM a b x = 3 := by simp [dM, h0, hin]
      have e2 : dA a b x = lz x := by simp [dA, h0, hin]
      have e3 : dB a b x = tz x := by simp [dB, h0, hin]
      rw [e1, e2, e3]
      have hin2 : ¬ a ≤ lz x ∨ (a ≤ lz x ∧ ¬ b ≤ tz x) := by unfold inW at hin; omega
      clear e1 e2 e3 hin
      have hlz := lz_le x
      have htz := lz_tz (by omega) hx
      generalize lz x = A at *
      generalize tz x = B at *
      rcases hin2 with hi | ⟨hi1, hi2⟩
      · have d1 : ¬ (a : Int) ≤ (A : Int) := by omega
        go_enter Tryz.func94, Tryz.ntmps94
        go_wp2_with fail
        refine NO.out.mono ?_
        rintro e w2 ⟨rfl, b2⟩
        have X2 := hide ((X1.out.below b2).alloc (.cells #[.int .i64 (A : Int), .int .i64 (B : Int)] 116))
        have Y2 := hide ((Y0.out.below b2).alloc (.cells #[.int .i64 (A : Int), .int .i64 (B : Int)] 116))
        have B2 := B1.out.trans (b2.mono B1.out.size)
        have B3 := hide (B2.alloc B2.size (.cells #[.int .i64 (A : Int), .int .i64 (B : Int)] 116))
        have b4 := hide (below_set3X (g := w.heap.size + 1) B3.out (by omega) (.int .i64 3) (.int .i64 (A : Int)) (.int .i64 (B : Int)))
        have X3 := (Y2.out.set3 (.int .i64 3) (.int .i64 (A : Int)) (.int .i64 (B : Int))).st3
        obtain ⟨p0, p1, p2, p3, p4, p5, p6, p7⟩ := Y2.out.st3
        have o0 := X3.c0
        have o1 := X3.c1
        have o2 := X3.c2
        have q0 := X2.out.st2.c0
        have q1 := X2.out.st2.c1
        clear X3 NO B1 X1 Y0 b2 B2
        go_wp2_with fail
        refine bodyPost_ret (v := .agg #[.int .i64 3, .int .i64 (A : Int), .int .i64 (B : Int)]) (by simp [results, Tryz.f94, go_sem, o0, o1, o2]) rfl ?_
        exact ⟨rfl, b4.out⟩
      · have d1 : (a : Int) ≤ (A : Int) := by omega
        have d2 : ¬ (b : Int) ≤ (B : Int) := by omega
        go_enter Tryz.func94, Tryz.ntmps94
        go_wp2_with fail
        refine NO.out.mono ?_
        rintro e w2 ⟨rfl, b2⟩
        have X2 := hide ((X1.out.below b2).alloc (.cells #[.int .i64 (A : Int), .int .i64 (B : Int)] 116))
        have Y2 := hide ((Y0.out.below b2).alloc (.cells #[.int .i64 (A : Int), .int .i64 (B : Int)] 116))
        have B2 := B1.out.trans (b2.mono B1.out.size)
        have B3 := hide (B2.alloc B2.size (.cells #[.int .i64 (A : Int), .int .i64 (B : Int)] 116))
        have b4 := hide (below_set3X (g := w.heap.size + 1) B3.out (by omega) (.int .i64 3) (.int .i64 (A : Int)) (.int .i64 (B : Int)))
        have X3 := (Y2.out.set3 (.int .i64 3) (.int .i64 (A : Int)) (.int .i64 (B : Int))).st3
        obtain ⟨p0, p1, p2, p3, p4, p5, p6, p7⟩ := Y2.out.st3
        have o0 := X3.c0
        have o1 := X3.c1
        have o2 := X3.c2
        have q0 := X2.out.st2.c0
        have q1 := X2.out.st2.c1
        clear X3 NO B1 X1 Y0 b2 B2
        go_wp2_with fail
        refine bodyPost_ret (v := .agg #[.int .i64 3, .int .i64 (A : Int), .int .i64 (B : Int)]) (by simp [results, Tryz.f94, go_sem, o0, o1, o2]) rfl ?_
        exact ⟨rfl, b4.out⟩
set_option linter.unusedSimpArgs false

theorem Did.refl (w : World) (base p : Nat) (v : Value) : Did w w base p v v := ⟨Below.refl _ _, But.refl _ _, fun _ _ h => h⟩
theorem Bx.did {w w1 : World} {base p g : Nat} {v v1 : Value} {t : TypeId} {xs : Array Value} (h : Bx w g t xs) (d : Did w w1 base p v v1) (hn : ¬ fp p v g) : Bx w1 g t xs := (d.but.block g h.lt hn).trans h
theorem TabX.did {w w1 : World} {base p : Nat} {v v1 : Value} (h : TabX w) (d : Did w w1 base p v v1) (hb : 2 < base) : TabX w1 := h.kept d.bel hb
theorem Did.drewN {w w1 : World} {base p : Nat} {v v1 : Value} (d : Did w w1 base p v v1) (k : Nat) : Did w (w1.drewN k) base p v v1 := ⟨below_drewN d.bel k, d.but.drewN k, d.own⟩
theorem Did.drew {w w1 : World} {base p : Nat} {v v1 : Value} (d : Did w w1 base p v v1) : Did w w1.drew base p v v1 := ⟨below_drew d.bel, ⟨d.but.os, d.but.tape, d.but.output, d.but.size, d.but.block⟩, d.own⟩
theorem Wr.drew {w : World} {base p A n : Nat} {v : Value} (h : Wr w base p v A n) : Wr w.drew base p v A n := by
  obtain ⟨m, O, H⟩ := h
  exact ⟨m, O.drew, H⟩

/-- Numbers in memory: the j-th one is X j, of S j bits. -/
structure Nums (w : World) (g m : Nat) (X S : Nat → Nat) : Prop where
  lt : g < w.heap.size
  x : ∀ j, j < m → w.cell? ⟨g, j * 2, none⟩ = some (.int .u64 ((X j : Nat) : Int))
  s : ∀ j, j < m → w.cell? ⟨g, j * 2 + 1, none⟩ = some (.int .i64 ((S j : Nat) : Int))
theorem cell_same {w w' : World} {g : Nat} (hb : w'.heap[g]? = w.heap[g]?) (i : Nat) : w'.cell? ⟨g, i, none⟩ = w.cell? ⟨g, i, none⟩ := by unfold World.cell?; simp only [hb]
theorem Nums.same {w w' : World} {g m : Nat} {X S : Nat → Nat} (h : Nums w g m X S) (hb : w'.heap[g]? = w.heap[g]?) (hs : w.heap.size ≤ w'.heap.size) : Nums w' g m X S :=
  ⟨by have := h.lt; omega, fun j hj => (cell_same hb _).trans (h.x j hj), fun j hj => (cell_same hb _).trans (h.s j hj)⟩
theorem Nums.below {w w' : World} {g m B : Nat} {X S : Nat → Nat} (h : Nums w g m X S) (hb : Below B w w') (hB : g < B) : Nums w' g m X S := h.same (hb.block g hB) hb.size
theorem Nums.did {w w1 : World} {base p g m : Nat} {v v1 : Value} {X S : Nat → Nat} (h : Nums w g m X S) (d : Did w w1 base p v v1) (hn : ¬ fp p v g) : Nums w1 g m X S := h.same (d.but.block g h.lt hn) d.bel.size
theorem pn_next (A : Nat) (X S : Nat → Nat) (k : Nat) : (A * 2 ^ posP S k + numP S X k) * 2 ^ S k + X k % 2 ^ S k = A * 2 ^ posP S (k + 1) + numP S X (k + 1) := by
  simp only [posP, numP]
  rw [Nat.pow_add, Nat.add_mul, Nat.mul_assoc, Nat.add_assoc]

set_option maxHeartbeats 2000000 in
theorem put_anyX {w : World} {base p A n0 : Nat} {v : Value} (h : Wr w base p v A n0) {g m : Nat} {X S : Nat → Nat} (hN : Nums w g m X S) (hg : ¬ fp p v g) (hS : ∀ j, j < m → S j ≤ 64) (hX : ∀ j, j < m → X j < 18446744073709551616) (hroom : n0 + posP S m ≤ 524288) (hm : m ≤ 4) :
    Calls Tryz.prog 93 #[.pointer (some ⟨p, 0, none⟩), .slice (some ⟨g, 0, none⟩) m m] w fun e w' => e = .returned (.int .i64 0) ∧ ∃ v', Wr w' base p v' (A * 2 ^ posP S m + numP S X m) (n0 + posP S m) ∧ Did w w' base p v v' := by
  have LN := hide (lenWr h)
  replace h := hide h
  have hpb := Nat.le_trans (Nat.le_add_left (posP S m) n0) hroom
  have hn0 : (n0 : Int) ≤ 524288 := by omega
  replace hN := hide hN
  have hmI : (m : Int) ≤ 4 := by omega
  replace hS := hide hS
  replace hX := hide hX
  replace hg := hide hg
  replace hpb := hide hpb
  replace hroom := hide hroom
  go_enter Tryz.func93, Tryz.ntmps93
  go_wp2_with fail
  refine LN.out.mono ?_
  rintro e w ⟨rfl, rfl⟩
  clear LN
  go_wp2_with fail
  go_loopw [5, 16] (fun r i wr => ∃ (k : Nat) (R : Int), k ≤ m ∧ i = .int .i64 (k : Int) ∧ r = .int .i64 R ∧ Hid (R = 524288 - (n0 : Int) - ((posP S k : Nat) : Int)) ∧ Hid (Below w.heap.size w wr)) (fun _ i _ => m - (intOf i).toNat)
  case atStart => exact ⟨0, 524288 - (n0 : Int), Nat.zero_le _, rfl, rfl, by show _ = _; simp [posP], Below.refl _ _⟩
  case round =>
    obtain ⟨k, R, hk, rfl, rfl, hR, B⟩ := hrel
    have hpk := posP_mono S hk
    have hR2 := hR.out
    have hr3 := hroom.out
    have hRr : 0 ≤ R ∧ R ≤ 524288 := by omega
    by_cases hlt : k < m
    · have hltI : (k : Int) < (m : Int) := by omega
      have N1 := hN.out.below B.out hN.out.lt
      have c0 := N1.x k hlt
      have c1 := N1.s k hlt
      have hSk := hS.out k hlt
      have hnx : R - ((S k : Nat) : Int) = 524288 - (n0 : Int) - ((posP S (k + 1) : Nat) : Int) := by simp only [posP]; omega
      have hpk1 := posP_mono S (show k + 1 ≤ m by omega)
      have B1 := hide (B.out.alloc B.out.size (.cells #[.int .u64 ((X k : Nat) : Int), .int .i64 ((S k : Nat) : Int)] 151))
      clear N1
      replace hR := hide hR
      generalize S k = s at *
      generalize X k = x at *
      replace hnx := hide hnx
      replace hpk := hide hpk
      replace hpk1 := hide hpk1
      replace hR2 := hide hR2
      replace hr3 := hide hr3
      have hsI : (s : Int) ≤ 64 := by omega
      obtain ⟨hRr1, hRr2⟩ := hRr
      go_wp2_with fail
      go_roundw
      case rel => exact ⟨k + 1, _, by omega, by go_num, rfl, hnx, B1⟩
      case measure => simp [intOf]; omega
    · obtain rfl : k = m := by omega
      have hRn : ¬ R < 0 := by omega
      have W1 := hide (h.out.below B.out (Nat.le_refl _))
      have N1 := hide (hN.out.below B.out hN.out.lt)
      have D1 := hide (Did.pre B.out (Did.refl wr base p v) (by have := h.out.lt; omega))
      clear h hN B hR hR2 hr3 hpk hRr
      go_wp2_with fail
      go_loopw [29] (fun i w2 => ∃ (j : Nat) (v' : Value), j ≤ k ∧ i = .int .i64 (j : Int) ∧ Hid (Wr w2 base p v' (A * 2 ^ posP S j + numP S X j) (n0 + posP S j)) ∧ Hid (Did w w2 base p v v') ∧ Hid (Nums w2 g k X S) ∧ Hid (¬ fp p v' g)) (fun i _ => k - (intOf i).toNat)
      case atStart => exact ⟨0, v, Nat.zero_le _, rfl, by simpa [posP, numP] using W1, D1, N1, hg⟩
      case round =>
        clear W1 N1 D1 hg
        obtain ⟨j, v', hj, rfl, W2, D2, N2, hg2⟩ := hrel
        by_cases hlt2 : j < k
        · have hltI : (j : Int) < (k : Int) := by omega
          have c0 := N2.out.x j hlt2
          have c1 := N2.out.s j hlt2
          have hSj := hS.out j hlt2
          have hXj := hX.out j hlt2
          have hpj := posP_mono S (show j + 1 ≤ k by omega)
          have B3 := (Below.refl wr.heap.size wr).alloc (Nat.le_refl _) (.cells #[.int .u64 ((X j : Nat) : Int), .int .i64 ((S j : Nat) : Int)] 151)
          have hbase := W2.out.lt
          have W3 := W2.out.below B3 (Nat.le_refl _)
          have P := hide (putWr W3 (X j) (S j) hXj hSj (by have := hroom.out; simp only [posP] at hpj; omega))
          rw [pn_next, show n0 + posP S j + S j = n0 + posP S (j + 1) from Nat.add_assoc _ _ _] at P
          have D3 := hide (D2.out.post B3 (by omega))
          have N3 := hide (N2.out.below B3 N2.out.lt)
          clear W3 W2 D2 N2 B3
          replace hpj := hide hpj
          replace hSj := hide hSj
          replace hXj := hide hXj
          replace hbase := hide hbase
          generalize S j = s at *
          generalize X j = x at *
          go_wp2_with fail
          refine P.out.mono ?_
          rintro e w4 ⟨rfl, v4, W4, D4⟩
          have D5 := hide (D3.out.trans D4)
          have N5 := hide (N3.out.did D4 hg2.out)
          have g5 := hide (D4.not N3.out.lt hg2.out)
          replace W4 := hide W4
          clear D3 N3 D4 P
          go_wp2_with fail
          go_roundw
          case rel => exact ⟨j + 1, v4, by omega, by go_num, W4, D5, N5, g5⟩
          case measure => simp [intOf]; omega
        · obtain rfl : j = k := by omega
          go_wp2_with fail
          go_ret
          exact ⟨rfl, v', W2.out, D2.out⟩

end Go.Proofs.YtmjjedbdedemcaaGreatDoor
