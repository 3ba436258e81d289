/-
  The reference's Get, on.
-/
import Derived.Test.YtmddkinecplooaaDoorXR
namespace Go.Proofs.YtmddkinecplooaaDoor
open Go.RowKit
set_option linter.unusedVariables false
set_option linter.unusedSimpArgs false

set_option maxRecDepth 100000 in
set_option maxHeartbeats 8000000 in
theorem rg1_o {w : World} {base p m len cap : Nat} {ad : Option Addr} {l : List Int} (h : Ref w base p ad len cap m) (H : Has w ad len cap l) (hap : 0 < len → ∀ b off, ad = some ⟨b, off, none⟩ → b < base) (few : len ≤ 300) (h8 : m ≤ 8 * len) {n L a b : Nat} (hn : n ≠ 0) (hs : OkS n a b) (hr : m + 1 ≤ 8 * len) (hx : rd (num l) len m 1 = 1) (hr2 : m + 2 ≤ 8 * len) (hx2 : rd (num l) len (m + 1) 1 = 1) (hr3 : m + 14 ≤ 8 * len) {A M c : Nat} (hA : rd (num l) len (m + 2) 6 = A) (hM : rd (num l) len (m + 8) 6 = M) (hc : rd (num l) len (m + 2) 12 = c) (hAM : A + (M + 1) ≤ 64) {s B : Nat} (hss : s = M + 1) (hB : B = 64 - A - (M + 1)) (hr4 : m + 14 + s ≤ 8 * len) {x y : Nat} (hy : rd (num l) len (m + 14) s = y) (hxy : y * 2 ^ B = x) (hx64 : y * 2 ^ B < 18446744073709551616) (h0 : x ≠ 0) (hA2 : lz x = A) (hB2 : tz x = B) (hok : ¬ a < 64 ∨ (a < 64 ∧ ¬ a ≤ A) ∨ (a < 64 ∧ a ≤ A ∧ ¬ b ≤ B)) (hL : L < 18446744073709551616) {X : Nat} (hX : L ^^^ x = X) :
    Calls Tryd.prog 26 #[.pointer (some ⟨p, 0, none⟩), .agg #[.int .i64 (n : Int), .int .u64 (L : Int), .int .i64 (a : Int), .int .i64 (b : Int)]] w fun e w' => e = .returned (.tuple #[.agg #[.int .i64 ((n : Int) + 1), .int .u64 (X : Int), .int .i64 (A : Int), .int .i64 (B : Int)], .int .u64 (X : Int), .int .i64 0]) ∧ Ref w' base p ad len cap (m + 14 + s) ∧ But (fun k => k = p) w w' := by
  have hxor := u64_xor_nat L x hL (by omega)
  rw [hX] at hxor
  have EN := hide (fun w => ends_any x w (by omega) (by omega))
  rw [hA2, hB2] at EN
  have hcA : c = A * 64 + M := by rw [← hc, rd_twelve (by omega), hA, hM]
  have hA6 : A < 64 := by rw [← hA]; exact six_lt _ _ _
  have hM6 : M < 64 := by rw [← hM]; exact six_lt _ _ _
  have ec1 : (c : Int) / 64 = (A : Int) := by omega
  have ec2 : (c : Int) % 64 = (M : Int) := by omega
  have iA : (A : Int) ≤ 63 := by omega
  have iM : (M : Int) ≤ 63 := by omega
  have ic : (c : Int) ≤ 4095 := by omega
  have ib : ¬ (64 : Int) < (A : Int) + ((M : Int) + 1) := by omega
  have eB : (64 : Int) - (A : Int) - ((M : Int) + 1) = (B : Int) := by omega
  have es : (64 : Int) - (A : Int) - (B : Int) = (s : Int) := by omega
  have iB : (B : Int) ≤ 63 := by omega
  have hs64 := hide (show s ≤ 64 by omega)
  have hfb := hide (show B ≤ 63 by omega)
  replace hr := hide hr
  replace hx := hide hx
  replace hr2 := hide hr2
  replace hx2 := hide hx2
  replace hr3 := hide hr3
  replace hA := hide hA
  replace hM := hide hM
  replace hc := hide hc
  replace hcA := hide hcA
  replace hA6 := hide hA6
  replace hM6 := hide hM6
  replace hAM := hide hAM
  replace hss := hide hss
  replace hB := hide hB
  replace hr4 := hide hr4
  replace hy := hide hy
  replace hxy := hide hxy
  replace hx64 := hide hx64
  have E0 := RGS.start h H hap few h8
  have hz := zero36
  have hpl := h.lt
  have S0 : Hid (Nx ((w.alloc (.cells #[.int .i64 (n : Int), .int .u64 (L : Int), .int .i64 (a : Int), .int .i64 (b : Int)] 36)).alloc (.cells #[.int .i64 0, .int .u64 0, .int .i64 0, .int .i64 0] 36)) p w.heap.size 36 #[.int .i64 (n : Int), .int .u64 (L : Int), .int .i64 (a : Int), .int .i64 (b : Int)]) := ⟨(Bx.new w 36 _).alloc _, by omega⟩
  have R0 : Hid (Nx ((w.alloc (.cells #[.int .i64 (n : Int), .int .u64 (L : Int), .int .i64 (a : Int), .int .i64 (b : Int)] 36)).alloc (.cells #[.int .i64 0, .int .u64 0, .int .i64 0, .int .i64 0] 36)) p (w.heap.size + 1) 36 #[.int .i64 0, .int .u64 0, .int .i64 0, .int .i64 0]) := ⟨Bx.new_at (by simp) 36 _, by omega⟩
  have E1 := hide ((E0.alloc (.cells #[.int .i64 (n : Int), .int .u64 (L : Int), .int .i64 (a : Int), .int .i64 (b : Int)] 36)).alloc (.cells #[.int .i64 0, .int .u64 0, .int .i64 0, .int .i64 0] 36))
  have RI := hide (right_any (n : Int) (L : Int) (a : Int) (b : Int))
  replace hpl := hide hpl
  clear E0 h H hap few h8
  rw [okSI_of hs] at RI
  have i0 : ¬ (n : Int) = 0 := by omega
  have i1 : (n : Int) ≤ 4096 := by have := hs.n; omega
  have i2 : 0 ≤ (n : Int) := by omega
  clear hs hn hL hX hA2 hB2
  go_enter Tryd.func26, Tryd.ntmps26
  go_wp2_with fail
  refine (RI.out _).mono ?_
  rintro e w2 ⟨rfl, b2⟩
  have E2 := hide (E1.out.below b2)
  have R2 := hide (R0.out.below b2)
  have S2 := hide (S0.out.below b2)
  clear E1 R0 S0 b2 RI
  have s0 := S2.out.bx.st4.c0
  have s1 := S2.out.bx.st4.c1
  have s2 := S2.out.bx.st4.c2
  have s3 := S2.out.bx.st4.c3
  have O3 : Hid (Nx (w2.alloc (.cells #[.int .i64 ((n : Int) + 1), .int .u64 (L : Int), .int .i64 (a : Int), .int .i64 (b : Int)] 36)) p w2.heap.size 36 #[.int .i64 ((n : Int) + 1), .int .u64 (L : Int), .int .i64 (a : Int), .int .i64 (b : Int)]) := ⟨Bx.new w2 36 _, by have := E2.out.rf.lt; omega⟩
  have E3 := hide (E2.out.alloc (.cells #[.int .i64 ((n : Int) + 1), .int .u64 (L : Int), .int .i64 (a : Int), .int .i64 (b : Int)] 36))
  have R3 := hide (R2.out.alloc (.cells #[.int .i64 ((n : Int) + 1), .int .u64 (L : Int), .int .i64 (a : Int), .int .i64 (b : Int)] 36))
  have S3 := hide (S2.out.alloc (.cells #[.int .i64 ((n : Int) + 1), .int .u64 (L : Int), .int .i64 (a : Int), .int .i64 (b : Int)] 36))
  have hg3 : Hid (w.heap.size + 1 < w2.heap.size) := R2.out.bx.lt
  clear E2 R2 S2
  have P := hide (getRf E3.out.rf E3.out.H E3.out.hap E3.out.few 1 (ni := 1) (xi := 1) (x := 1) rfl hx.out rfl (by decide) hr.out)
  go_wp2_with fail
  refine P.out.mono ?_
  rintro e w4 ⟨rfl, W4, D4⟩
  have E4 := hide (E3.out.get D4 W4 hr.out)
  have R4 := hide (R3.out.get D4)
  have S4 := hide (S3.out.get D4)
  have O4 := hide (O3.out.get D4)
  clear P E3 W4 D4 R3 S3 O3
  have P := hide (getRf E4.out.rf E4.out.H E4.out.hap E4.out.few 1 (ni := 1) (xi := 1) (x := 1) rfl hx2.out rfl (by decide) hr2.out)
  go_wp2_with fail
  refine P.out.mono ?_
  rintro e w5 ⟨rfl, W5, D5⟩
  have E5 := hide (E4.out.get D5 W5 hr2.out)
  have R5 := hide (R4.out.get D5)
  have S5 := hide (S4.out.get D5)
  have O5 := hide (O4.out.get D5)
  clear P E4 W5 D5 R4 S4 O4
  have P := hide (getRf E5.out.rf E5.out.H E5.out.hap E5.out.few 12 (ni := 12) (xi := (c : Int)) (x := c) rfl hc.out rfl (by decide) hr3.out)
  go_wp2_with fail
  refine P.out.mono ?_
  rintro e w6 ⟨rfl, W6, D6⟩
  have E6 := hide (E5.out.get D6 W6 hr3.out)
  have R6 := hide (R5.out.get D6)
  have S6 := hide (S5.out.get D6)
  have O6 := hide (O5.out.get D6)
  clear P E5 W6 D6 R5 S5 O5
  clear s0 s1 s2 s3
  have bt : But (fun i => i = w2.heap.size) w6 (w6.setCell ⟨w2.heap.size, 2, none⟩ (.int .i64 (A : Int))) := (But.refl (fun i => i = w2.heap.size) w6).setCell (p := ⟨w2.heap.size, 2, none⟩) (fun _ => rfl) _
  have E7 := hide (E6.out.set bt (by have := hg3.out; omega) O6.out.ne)
  have R7 := hide (R6.out.but bt (by have := hg3.out; omega))
  have S7 := hide (S6.out.but bt (by have := hg3.out; omega))
  have O7 : Hid (Nx (w6.setCell ⟨w2.heap.size, 2, none⟩ (.int .i64 (A : Int))) p w2.heap.size 36 #[.int .i64 ((n : Int) + 1), .int .u64 (L : Int), .int .i64 (A : Int), .int .i64 (b : Int)]) := ⟨O6.out.bx.set1 2 _, O6.out.ne⟩
  have o2 := O6.out.bx.st4.c2
  have f2 := O6.out.bx.fz 2
  have g2 := O7.out.bx.st4.c2
  have g3 := O7.out.bx.st4.c3
  have f3 := O7.out.bx.fz 3
  clear bt
  have bt2 : But (fun i => i = w2.heap.size) (w6.setCell ⟨w2.heap.size, 2, none⟩ (.int .i64 (A : Int))) ((w6.setCell ⟨w2.heap.size, 2, none⟩ (.int .i64 (A : Int))).setCell ⟨w2.heap.size, 3, none⟩ (.int .i64 (B : Int))) := (But.refl (fun i => i = w2.heap.size) _).setCell (p := ⟨w2.heap.size, 3, none⟩) (fun _ => rfl) _
  have E8 := hide (E7.out.set bt2 (by have := hg3.out; omega) O7.out.ne)
  have R8 := hide (R7.out.but bt2 (by have := hg3.out; omega))
  have S8 := hide (S7.out.but bt2 (by have := hg3.out; omega))
  have O8 : Hid (Nx ((w6.setCell ⟨w2.heap.size, 2, none⟩ (.int .i64 (A : Int))).setCell ⟨w2.heap.size, 3, none⟩ (.int .i64 (B : Int))) p w2.heap.size 36 #[.int .i64 ((n : Int) + 1), .int .u64 (L : Int), .int .i64 (A : Int), .int .i64 (B : Int)]) := ⟨O7.out.bx.set1 3 _, O7.out.ne⟩
  have k2 := O8.out.bx.st4.c2
  have k3 := O8.out.bx.st4.c3
  clear bt2
  have P := hide (getRf E8.out.rf E8.out.H E8.out.hap E8.out.few s (ni := (s : Int)) (xi := (y : Int)) (x := y) rfl hy.out rfl hs64.out (by have := hr4.out; omega))
  go_wp2_with fail
  refine P.out.mono ?_
  rintro e w9 ⟨rfl, W9, D9⟩
  have E9 := hide (E8.out.get D9 W9 (by have := hr4.out; omega))
  have R9 := hide (R8.out.get D9)
  have S9 := hide (S8.out.get D9)
  have O9 := hide (O8.out.get D9)
  clear P E8 W9 D9 R8 S8 O8
  clear E6 R6 S6 O6 E7 R7 S7 O7 o2 f2 g2 g3 f3 k2 k3
  have o0 := O9.out.bx.st4.c0
  have o1 := O9.out.bx.st4.c1
  have o2 := O9.out.bx.st4.c2
  have o3 := O9.out.bx.st4.c3
  go_wp2_with fail
  go_loopw [17, 18] (fun xv kv wr => ∃ (k z : Nat), k ≤ B ∧ kv = .int .i64 (k : Int) ∧ xv = .int .u64 (z : Int) ∧ Hid (z = y * 2 ^ k) ∧ wr = w9) (fun _ kv _ => B - (intOf kv).toNat)
  case atStart => exact ⟨0, y, Nat.zero_le _, rfl, rfl, by show _ = _; simp, rfl⟩
  case round =>
    obtain ⟨k, z, hk, rfl, rfl, hzz, hwr⟩ := hrel
    subst hwr
    by_cases hlt : k < B
    · have i8 : (k : Int) < (B : Int) := by omega
      have i9 : (k : Int) ≤ 63 := by have := hfb.out; omega
      have hz2 : Hid (2 * z = y * 2 ^ (k + 1)) := by show _ = _; rw [hzz.out, Nat.pow_succ, Nat.mul_comm 2 (y * 2 ^ k), Nat.mul_assoc]
      have hz3 : 2 * z < 18446744073709551616 := by
        have h1 : 2 ^ (k + 1) ≤ 2 ^ B := Nat.pow_le_pow_right (by decide) hlt
        have h2 := Nat.mul_le_mul_left y h1
        have := hx64.out
        rw [← hz2.out] at h2
        omega
      have e2 : (2 : Int) * (z : Int) = ((2 * z : Nat) : Int) := by omega
      have i10 : ((2 * z : Nat) : Int) < 18446744073709551616 := by omega
      replace hz3 := hide hz3
      generalize 2 * z = z' at *
      go_wp2_with fail
      go_roundw
      case rel => exact ⟨k + 1, z', by omega, by go_num, rfl, hz2, trivial⟩
      case measure => simp [intOf]; omega
    · obtain rfl : k = B := by omega
      have hzx : z = x := by rw [hzz.out]; exact hxy.out
      subst hzx
      have i8 : ¬ (k : Int) < (k : Int) := by omega
      have iz : ¬ (z : Int) = 0 := by omega
      have s0 := S9.out.bx.st4.c0
      have s1 := S9.out.bx.st4.c1
      have s2 := S9.out.bx.st4.c2
      have s3 := S9.out.bx.st4.c3
      go_wp2_with fail
      refine (EN.out _).mono ?_
      rintro e wq ⟨rfl, hwq⟩
      rw [hwq]
      clear hwq wq EN
      rcases hok with hq | ⟨hq1, hq2⟩ | ⟨hq1, hq2, hq3⟩
      · have j3 : ¬ (a : Int) < 64 := by omega
        have bt : But (fun i => i = w2.heap.size) wr (wr.setCell ⟨w2.heap.size, 1, none⟩ (.int .u64 (X : Int))) := (But.refl (fun i => i = w2.heap.size) wr).setCell (p := ⟨w2.heap.size, 1, none⟩) (fun _ => rfl) _
        have f1 := O9.out.bx.fz 1
        have E10 := hide (E9.out.set bt (by have := hg3.out; omega) O9.out.ne)
        have R10 := hide (R9.out.but bt (by have := hg3.out; omega))
        have O10 : Hid (Nx (wr.setCell ⟨w2.heap.size, 1, none⟩ (.int .u64 (X : Int))) p w2.heap.size 36 #[.int .i64 ((n : Int) + 1), .int .u64 (X : Int), .int .i64 (A : Int), .int .i64 (k : Int)]) := ⟨O9.out.bx.set1 1 _, O9.out.ne⟩
        clear bt
        go_wp2_with fail
        obtain ⟨w8, hw8⟩ : ∃ w8, w8 = (wr.setCell ⟨w2.heap.size, 1, none⟩ (.int .u64 (X : Int))) := ⟨_, rfl⟩
        simp only [← hw8] at E10 R10 O10 ⊢
        clear hw8
        obtain ⟨gO, hgO⟩ : ∃ g, g = w2.heap.size := ⟨_, rfl⟩
        simp only [← hgO] at O10 hg3 ⊢
        clear hgO
        have X2 := (R10.out.bx.set4 (.int .i64 ((n : Int) + 1)) (.int .u64 (X : Int)) (.int .i64 (A : Int)) (.int .i64 (k : Int))).st4
        have FIN := hide (E10.out.set (but_set4 w8 (w.heap.size + 1) (.int .i64 ((n : Int) + 1)) (.int .u64 (X : Int)) (.int .i64 (A : Int)) (.int .i64 (k : Int))) (by omega) R10.out.ne).drew
        obtain ⟨p0, p1, p2, p3, p4, p5, p6, p7, p8, p9, p10⟩ := R10.out.bx.st4
        have z0 := X2.c0
        have z1 := X2.c1
        have z2 := X2.c2
        have z3 := X2.c3
        clear X2
        have Oz := hide (O10.out.but (but_set4 w8 (w.heap.size + 1) (.int .i64 ((n : Int) + 1)) (.int .u64 (X : Int)) (.int .i64 (A : Int)) (.int .i64 (k : Int))) (by have := hg3.out; omega)).drew
        refine wp_region_noPanic ?_
        refine wp_region_held_drew (S := (fun w' => St4 w' gO (.int .i64 ((n : Int) + 1)) (.int .u64 (X : Int)) (.int .i64 (A : Int)) (.int .i64 (k : Int)))) (by kernel_rfl) O10.out.drew.bx.st4 (fun hH0 => ?_)
        refine wpAnyH_take (i := 0) (oi := { dst := some 185, op := Op.load 36 (Operand.tmp 9), type := 36, pos := "ref.go:134", after := #[], guard := none }) (v := ?_) rfl (by kernel_rfl) (by kernel_rfl) (by kernel_rfl) (fun _ _ _ h => h) (Or.inl ⟨by rfl, ?_⟩) hH0 ?_
        rotate_left
        · intro w' hw'
          obtain ⟨o0, o1, o2, o3, -, -, -, -, -, -, -⟩ := hw'
          go_simp
          try with_reducible rfl
        try simp only [Act.put, List.setIfInBounds_toArray, List.set_cons_zero, List.set_cons_succ]
        refine wpAnyH_take (i := 1) (oi := { dst := some 186, op := Op.fieldAddr 36 (Operand.tmp 9) 1, type := 0, pos := "ref.go:134", after := #[{ on := 3, ground := Ground.gcOnly Departure.lateStores }], guard := none }) (v := ?_) rfl (by kernel_rfl) (by kernel_rfl) (by kernel_rfl) (fun _ _ _ h => h) (Or.inl ⟨by rfl, ?_⟩) hH0 ?_
        rotate_left
        · intro w' hw'
          obtain ⟨o0, o1, o2, o3, -, -, -, -, -, -, -⟩ := hw'
          go_simp
          try with_reducible rfl
        try simp only [Act.put, List.setIfInBounds_toArray, List.set_cons_zero, List.set_cons_succ]
        refine wpAnyH_take (i := 2) (oi := { dst := some 187, op := Op.load 22 (Operand.tmp 186), type := 22, pos := "ref.go:134", after := #[{ on := 1, ground := Ground.data }, { on := 3, ground := Ground.gcOnly Departure.lateStores }], guard := none }) (v := ?_) rfl (by kernel_rfl) (by kernel_rfl) (by kernel_rfl) (fun _ _ _ h => h) (Or.inl ⟨by rfl, ?_⟩) hH0 ?_
        rotate_left
        · intro w' hw'
          obtain ⟨o0, o1, o2, o3, -, -, -, -, -, -, -⟩ := hw'
          go_simp
          try with_reducible rfl
        try simp only [Act.put, List.setIfInBounds_toArray, List.set_cons_zero, List.set_cons_succ]
        refine wpAnyH_ready (rs := [3]) (by kernel_rfl) (by simp) ?_
        refine AllReadyH.cons (o := { dst := none, op := Op.store 36 (Operand.tmp 4) (Operand.tmp 185), type := 0, pos := "ref.go:134", after := #[{ on := 0, ground := Ground.data }, { on := 0, ground := Ground.phase }, { on := 1, ground := Ground.textOnly Departure.lateStores }, { on := 2, ground := Ground.textOnly Departure.lateStores }], guard := none }) rfl (fun K hK => ?_) AllReadyH.nil
        go_simp
        refine hK.out _ _ Oz.out.bx.st4 (fun hH1 => ?_)
        clear hK
        try simp only [Act.put, List.setIfInBounds_toArray, List.set_cons_zero, List.set_cons_succ]
        refine wpAnyH_take (i := 4) (oi := { dst := some 5, op := Op.assign (Operand.tmp 187), type := 22, pos := "ref.go:134", after := #[{ on := 2, ground := Ground.data }, { on := 3, ground := Ground.chain }, { on := 0, ground := Ground.phase }, { on := 1, ground := Ground.phase }, { on := 2, ground := Ground.phase }, { on := 3, ground := Ground.phase }], guard := none }) (v := ?_) rfl (by kernel_rfl) (by kernel_rfl) (by kernel_rfl) (fun _ _ _ h => h) (Or.inl ⟨by rfl, ?_⟩) hH1 ?_
        rotate_left
        · intro w' hw'
          obtain ⟨o0, o1, o2, o3, -, -, -, -, -, -, -⟩ := hw'
          go_simp
          try with_reducible rfl
        try simp only [Act.put, List.setIfInBounds_toArray, List.set_cons_zero, List.set_cons_succ]
        refine wpAnyH_take (i := 5) (oi := { dst := some 6, op := Op.assign (Operand.const (Value.int IntKind.i64 0)), type := 32, pos := "ref.go:134", after := #[{ on := 4, ground := Ground.chain }, { on := 0, ground := Ground.phase }, { on := 1, ground := Ground.phase }, { on := 2, ground := Ground.phase }, { on := 3, ground := Ground.phase }, { on := 4, ground := Ground.phase }], guard := none }) (v := ?_) rfl (by kernel_rfl) (by kernel_rfl) (by kernel_rfl) (fun _ _ _ h => h) (Or.inl ⟨by rfl, ?_⟩) hH1 ?_
        rotate_left
        · intro w' hw'
          obtain ⟨o0, o1, o2, o3, -, -, -, -, -, -, -⟩ := hw'
          go_simp
          try with_reducible rfl
        try simp only [Act.put, List.setIfInBounds_toArray, List.set_cons_zero, List.set_cons_succ]
        refine wpAnyH_done (by kernel_rfl) ?_ _
        refine NoPanic.normal ?_
        go_wp2_with fail
        refine bodyPost_ret (v := .tuple #[.agg #[.int .i64 ((n : Int) + 1), .int .u64 (X : Int), .int .i64 (A : Int), .int .i64 (k : Int)], .int .u64 (X : Int), .int .i64 0]) (by simp [results, Tryd.f26, go_sem, z0, z1, z2, z3]) rfl ?_
        have hfr := FIN.out.rf
        rw [show m + 1 + 1 + 12 + s = m + 14 + s by omega] at hfr
        exact ⟨rfl, hfr, FIN.out.but⟩
      · have j3 : (a : Int) < 64 := by omega
        have j4 : ¬ (a : Int) ≤ (A : Int) := by omega
        have bt : But (fun i => i = w2.heap.size) wr (wr.setCell ⟨w2.heap.size, 1, none⟩ (.int .u64 (X : Int))) := (But.refl (fun i => i = w2.heap.size) wr).setCell (p := ⟨w2.heap.size, 1, none⟩) (fun _ => rfl) _
        have f1 := O9.out.bx.fz 1
        have E10 := hide (E9.out.set bt (by have := hg3.out; omega) O9.out.ne)
        have R10 := hide (R9.out.but bt (by have := hg3.out; omega))
        have O10 : Hid (Nx (wr.setCell ⟨w2.heap.size, 1, none⟩ (.int .u64 (X : Int))) p w2.heap.size 36 #[.int .i64 ((n : Int) + 1), .int .u64 (X : Int), .int .i64 (A : Int), .int .i64 (k : Int)]) := ⟨O9.out.bx.set1 1 _, O9.out.ne⟩
        clear bt
        go_wp2_with fail
        obtain ⟨w8, hw8⟩ : ∃ w8, w8 = (wr.setCell ⟨w2.heap.size, 1, none⟩ (.int .u64 (X : Int))) := ⟨_, rfl⟩
        simp only [← hw8] at E10 R10 O10 ⊢
        clear hw8
        obtain ⟨gO, hgO⟩ : ∃ g, g = w2.heap.size := ⟨_, rfl⟩
        simp only [← hgO] at O10 hg3 ⊢
        clear hgO
        have X2 := (R10.out.bx.set4 (.int .i64 ((n : Int) + 1)) (.int .u64 (X : Int)) (.int .i64 (A : Int)) (.int .i64 (k : Int))).st4
        have FIN := hide (E10.out.set (but_set4 w8 (w.heap.size + 1) (.int .i64 ((n : Int) + 1)) (.int .u64 (X : Int)) (.int .i64 (A : Int)) (.int .i64 (k : Int))) (by omega) R10.out.ne).drew
        obtain ⟨p0, p1, p2, p3, p4, p5, p6, p7, p8, p9, p10⟩ := R10.out.bx.st4
        have z0 := X2.c0
        have z1 := X2.c1
        have z2 := X2.c2
        have z3 := X2.c3
        clear X2
        have Oz := hide (O10.out.but (but_set4 w8 (w.heap.size + 1) (.int .i64 ((n : Int) + 1)) (.int .u64 (X : Int)) (.int .i64 (A : Int)) (.int .i64 (k : Int))) (by have := hg3.out; omega)).drew
        refine wp_region_noPanic ?_
        refine wp_region_held_drew (S := (fun w' => St4 w' gO (.int .i64 ((n : Int) + 1)) (.int .u64 (X : Int)) (.int .i64 (A : Int)) (.int .i64 (k : Int)))) (by kernel_rfl) O10.out.drew.bx.st4 (fun hH0 => ?_)
        refine wpAnyH_take (i := 0) (oi := { dst := some 185, op := Op.load 36 (Operand.tmp 9), type := 36, pos := "ref.go:134", after := #[], guard := none }) (v := ?_) rfl (by kernel_rfl) (by kernel_rfl) (by kernel_rfl) (fun _ _ _ h => h) (Or.inl ⟨by rfl, ?_⟩) hH0 ?_
        rotate_left
        · intro w' hw'
          obtain ⟨o0, o1, o2, o3, -, -, -, -, -, -, -⟩ := hw'
          go_simp
          try with_reducible rfl
        try simp only [Act.put, List.setIfInBounds_toArray, List.set_cons_zero, List.set_cons_succ]
        refine wpAnyH_take (i := 1) (oi := { dst := some 186, op := Op.fieldAddr 36 (Operand.tmp 9) 1, type := 0, pos := "ref.go:134", after := #[{ on := 3, ground := Ground.gcOnly Departure.lateStores }], guard := none }) (v := ?_) rfl (by kernel_rfl) (by kernel_rfl) (by kernel_rfl) (fun _ _ _ h => h) (Or.inl ⟨by rfl, ?_⟩) hH0 ?_
        rotate_left
        · intro w' hw'
          obtain ⟨o0, o1, o2, o3, -, -, -, -, -, -, -⟩ := hw'
          go_simp
          try with_reducible rfl
        try simp only [Act.put, List.setIfInBounds_toArray, List.set_cons_zero, List.set_cons_succ]
        refine wpAnyH_take (i := 2) (oi := { dst := some 187, op := Op.load 22 (Operand.tmp 186), type := 22, pos := "ref.go:134", after := #[{ on := 1, ground := Ground.data }, { on := 3, ground := Ground.gcOnly Departure.lateStores }], guard := none }) (v := ?_) rfl (by kernel_rfl) (by kernel_rfl) (by kernel_rfl) (fun _ _ _ h => h) (Or.inl ⟨by rfl, ?_⟩) hH0 ?_
        rotate_left
        · intro w' hw'
          obtain ⟨o0, o1, o2, o3, -, -, -, -, -, -, -⟩ := hw'
          go_simp
          try with_reducible rfl
        try simp only [Act.put, List.setIfInBounds_toArray, List.set_cons_zero, List.set_cons_succ]
        refine wpAnyH_ready (rs := [3]) (by kernel_rfl) (by simp) ?_
        refine AllReadyH.cons (o := { dst := none, op := Op.store 36 (Operand.tmp 4) (Operand.tmp 185), type := 0, pos := "ref.go:134", after := #[{ on := 0, ground := Ground.data }, { on := 0, ground := Ground.phase }, { on := 1, ground := Ground.textOnly Departure.lateStores }, { on := 2, ground := Ground.textOnly Departure.lateStores }], guard := none }) rfl (fun K hK => ?_) AllReadyH.nil
        go_simp
        refine hK.out _ _ Oz.out.bx.st4 (fun hH1 => ?_)
        clear hK
        try simp only [Act.put, List.setIfInBounds_toArray, List.set_cons_zero, List.set_cons_succ]
        refine wpAnyH_take (i := 4) (oi := { dst := some 5, op := Op.assign (Operand.tmp 187), type := 22, pos := "ref.go:134", after := #[{ on := 2, ground := Ground.data }, { on := 3, ground := Ground.chain }, { on := 0, ground := Ground.phase }, { on := 1, ground := Ground.phase }, { on := 2, ground := Ground.phase }, { on := 3, ground := Ground.phase }], guard := none }) (v := ?_) rfl (by kernel_rfl) (by kernel_rfl) (by kernel_rfl) (fun _ _ _ h => h) (Or.inl ⟨by rfl, ?_⟩) hH1 ?_
        rotate_left
        · intro w' hw'
          obtain ⟨o0, o1, o2, o3, -, -, -, -, -, -, -⟩ := hw'
          go_simp
          try with_reducible rfl
        try simp only [Act.put, List.setIfInBounds_toArray, List.set_cons_zero, List.set_cons_succ]
        refine wpAnyH_take (i := 5) (oi := { dst := some 6, op := Op.assign (Operand.const (Value.int IntKind.i64 0)), type := 32, pos := "ref.go:134", after := #[{ on := 4, ground := Ground.chain }, { on := 0, ground := Ground.phase }, { on := 1, ground := Ground.phase }, { on := 2, ground := Ground.phase }, { on := 3, ground := Ground.phase }, { on := 4, ground := Ground.phase }], guard := none }) (v := ?_) rfl (by kernel_rfl) (by kernel_rfl) (by kernel_rfl) (fun _ _ _ h => h) (Or.inl ⟨by rfl, ?_⟩) hH1 ?_
        rotate_left
        · intro w' hw'
          obtain ⟨o0, o1, o2, o3, -, -, -, -, -, -, -⟩ := hw'
          go_simp
          try with_reducible rfl
        try simp only [Act.put, List.setIfInBounds_toArray, List.set_cons_zero, List.set_cons_succ]
        refine wpAnyH_done (by kernel_rfl) ?_ _
        refine NoPanic.normal ?_
        go_wp2_with fail
        refine bodyPost_ret (v := .tuple #[.agg #[.int .i64 ((n : Int) + 1), .int .u64 (X : Int), .int .i64 (A : Int), .int .i64 (k : Int)], .int .u64 (X : Int), .int .i64 0]) (by simp [results, Tryd.f26, go_sem, z0, z1, z2, z3]) rfl ?_
        have hfr := FIN.out.rf
        rw [show m + 1 + 1 + 12 + s = m + 14 + s by omega] at hfr
        exact ⟨rfl, hfr, FIN.out.but⟩
      · have j3 : (a : Int) < 64 := by omega
        have j4 : (a : Int) ≤ (A : Int) := by omega
        have j5 : ¬ (b : Int) ≤ (k : Int) := by omega
        have bt : But (fun i => i = w2.heap.size) wr (wr.setCell ⟨w2.heap.size, 1, none⟩ (.int .u64 (X : Int))) := (But.refl (fun i => i = w2.heap.size) wr).setCell (p := ⟨w2.heap.size, 1, none⟩) (fun _ => rfl) _
        have f1 := O9.out.bx.fz 1
        have E10 := hide (E9.out.set bt (by have := hg3.out; omega) O9.out.ne)
        have R10 := hide (R9.out.but bt (by have := hg3.out; omega))
        have O10 : Hid (Nx (wr.setCell ⟨w2.heap.size, 1, none⟩ (.int .u64 (X : Int))) p w2.heap.size 36 #[.int .i64 ((n : Int) + 1), .int .u64 (X : Int), .int .i64 (A : Int), .int .i64 (k : Int)]) := ⟨O9.out.bx.set1 1 _, O9.out.ne⟩
        clear bt
        go_wp2_with fail
        obtain ⟨w8, hw8⟩ : ∃ w8, w8 = (wr.setCell ⟨w2.heap.size, 1, none⟩ (.int .u64 (X : Int))) := ⟨_, rfl⟩
        simp only [← hw8] at E10 R10 O10 ⊢
        clear hw8
        obtain ⟨gO, hgO⟩ : ∃ g, g = w2.heap.size := ⟨_, rfl⟩
        simp only [← hgO] at O10 hg3 ⊢
        clear hgO
        have X2 := (R10.out.bx.set4 (.int .i64 ((n : Int) + 1)) (.int .u64 (X : Int)) (.int .i64 (A : Int)) (.int .i64 (k : Int))).st4
        have FIN := hide (E10.out.set (but_set4 w8 (w.heap.size + 1) (.int .i64 ((n : Int) + 1)) (.int .u64 (X : Int)) (.int .i64 (A : Int)) (.int .i64 (k : Int))) (by omega) R10.out.ne).drew
        obtain ⟨p0, p1, p2, p3, p4, p5, p6, p7, p8, p9, p10⟩ := R10.out.bx.st4
        have z0 := X2.c0
        have z1 := X2.c1
        have z2 := X2.c2
        have z3 := X2.c3
        clear X2
        have Oz := hide (O10.out.but (but_set4 w8 (w.heap.size + 1) (.int .i64 ((n : Int) + 1)) (.int .u64 (X : Int)) (.int .i64 (A : Int)) (.int .i64 (k : Int))) (by have := hg3.out; omega)).drew
        refine wp_region_noPanic ?_
        refine wp_region_held_drew (S := (fun w' => St4 w' gO (.int .i64 ((n : Int) + 1)) (.int .u64 (X : Int)) (.int .i64 (A : Int)) (.int .i64 (k : Int)))) (by kernel_rfl) O10.out.drew.bx.st4 (fun hH0 => ?_)
        refine wpAnyH_take (i := 0) (oi := { dst := some 185, op := Op.load 36 (Operand.tmp 9), type := 36, pos := "ref.go:134", after := #[], guard := none }) (v := ?_) rfl (by kernel_rfl) (by kernel_rfl) (by kernel_rfl) (fun _ _ _ h => h) (Or.inl ⟨by rfl, ?_⟩) hH0 ?_
        rotate_left
        · intro w' hw'
          obtain ⟨o0, o1, o2, o3, -, -, -, -, -, -, -⟩ := hw'
          go_simp
          try with_reducible rfl
        try simp only [Act.put, List.setIfInBounds_toArray, List.set_cons_zero, List.set_cons_succ]
        refine wpAnyH_take (i := 1) (oi := { dst := some 186, op := Op.fieldAddr 36 (Operand.tmp 9) 1, type := 0, pos := "ref.go:134", after := #[{ on := 3, ground := Ground.gcOnly Departure.lateStores }], guard := none }) (v := ?_) rfl (by kernel_rfl) (by kernel_rfl) (by kernel_rfl) (fun _ _ _ h => h) (Or.inl ⟨by rfl, ?_⟩) hH0 ?_
        rotate_left
        · intro w' hw'
          obtain ⟨o0, o1, o2, o3, -, -, -, -, -, -, -⟩ := hw'
          go_simp
          try with_reducible rfl
        try simp only [Act.put, List.setIfInBounds_toArray, List.set_cons_zero, List.set_cons_succ]
        refine wpAnyH_take (i := 2) (oi := { dst := some 187, op := Op.load 22 (Operand.tmp 186), type := 22, pos := "ref.go:134", after := #[{ on := 1, ground := Ground.data }, { on := 3, ground := Ground.gcOnly Departure.lateStores }], guard := none }) (v := ?_) rfl (by kernel_rfl) (by kernel_rfl) (by kernel_rfl) (fun _ _ _ h => h) (Or.inl ⟨by rfl, ?_⟩) hH0 ?_
        rotate_left
        · intro w' hw'
          obtain ⟨o0, o1, o2, o3, -, -, -, -, -, -, -⟩ := hw'
          go_simp
          try with_reducible rfl
        try simp only [Act.put, List.setIfInBounds_toArray, List.set_cons_zero, List.set_cons_succ]
        refine wpAnyH_ready (rs := [3]) (by kernel_rfl) (by simp) ?_
        refine AllReadyH.cons (o := { dst := none, op := Op.store 36 (Operand.tmp 4) (Operand.tmp 185), type := 0, pos := "ref.go:134", after := #[{ on := 0, ground := Ground.data }, { on := 0, ground := Ground.phase }, { on := 1, ground := Ground.textOnly Departure.lateStores }, { on := 2, ground := Ground.textOnly Departure.lateStores }], guard := none }) rfl (fun K hK => ?_) AllReadyH.nil
        go_simp
        refine hK.out _ _ Oz.out.bx.st4 (fun hH1 => ?_)
        clear hK
        try simp only [Act.put, List.setIfInBounds_toArray, List.set_cons_zero, List.set_cons_succ]
        refine wpAnyH_take (i := 4) (oi := { dst := some 5, op := Op.assign (Operand.tmp 187), type := 22, pos := "ref.go:134", after := #[{ on := 2, ground := Ground.data }, { on := 3, ground := Ground.chain }, { on := 0, ground := Ground.phase }, { on := 1, ground := Ground.phase }, { on := 2, ground := Ground.phase }, { on := 3, ground := Ground.phase }], guard := none }) (v := ?_) rfl (by kernel_rfl) (by kernel_rfl) (by kernel_rfl) (fun _ _ _ h => h) (Or.inl ⟨by rfl, ?_⟩) hH1 ?_
        rotate_left
        · intro w' hw'
          obtain ⟨o0, o1, o2, o3, -, -, -, -, -, -, -⟩ := hw'
          go_simp
          try with_reducible rfl
        try simp only [Act.put, List.setIfInBounds_toArray, List.set_cons_zero, List.set_cons_succ]
        refine wpAnyH_take (i := 5) (oi := { dst := some 6, op := Op.assign (Operand.const (Value.int IntKind.i64 0)), type := 32, pos := "ref.go:134", after := #[{ on := 4, ground := Ground.chain }, { on := 0, ground := Ground.phase }, { on := 1, ground := Ground.phase }, { on := 2, ground := Ground.phase }, { on := 3, ground := Ground.phase }, { on := 4, ground := Ground.phase }], guard := none }) (v := ?_) rfl (by kernel_rfl) (by kernel_rfl) (by kernel_rfl) (fun _ _ _ h => h) (Or.inl ⟨by rfl, ?_⟩) hH1 ?_
        rotate_left
        · intro w' hw'
          obtain ⟨o0, o1, o2, o3, -, -, -, -, -, -, -⟩ := hw'
          go_simp
          try with_reducible rfl
        try simp only [Act.put, List.setIfInBounds_toArray, List.set_cons_zero, List.set_cons_succ]
        refine wpAnyH_done (by kernel_rfl) ?_ _
        refine NoPanic.normal ?_
        go_wp2_with fail
        refine bodyPost_ret (v := .tuple #[.agg #[.int .i64 ((n : Int) + 1), .int .u64 (X : Int), .int .i64 (A : Int), .int .i64 (k : Int)], .int .u64 (X : Int), .int .i64 0]) (by simp [results, Tryd.f26, go_sem, z0, z1, z2, z3]) rfl ?_
        have hfr := FIN.out.rf
        rw [show m + 1 + 1 + 12 + s = m + 14 + s by omega] at hfr
        exact ⟨rfl, hfr, FIN.out.but⟩
end Go.Proofs.YtmddkinecplooaaDoor
