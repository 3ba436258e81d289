/-
  The reference's Get, on.
-/
import Derived.Test.YtmddkinecplooaaDoorXR
namespace Go.Proofs.YtmddkinecplooaaDoor
open Go.RowKit
set_option linter.unusedVariables false
set_option linter.unusedSimpArgs false

set_option maxRecDepth 100000 in
set_option maxHeartbeats 8000000 in
theorem rg1_is {w : World} {base p m len cap : Nat} {ad : Option Addr} {l : List Int} (h : Ref w base p ad len cap m) (H : Has w ad len cap l) (hap : 0 < len → ∀ b off, ad = some ⟨b, off, none⟩ → b < base) (few : len ≤ 300) (h8 : m ≤ 8 * len) {n L a b : Nat} (hn : n ≠ 0) (hs : OkS n a b) (hr : m + 1 ≤ 8 * len) (hx : rd (num l) len m 1 = 1) (hr2 : m + 2 ≤ 8 * len) (hx2 : rd (num l) len (m + 1) 1 = 0) (hab : a + b ≤ 63) {s : Nat} (hss : s = 64 - a - b) (hr3 : 8 * len < m + 2 + s) :
    Calls Tryd.prog 26 #[.pointer (some ⟨p, 0, none⟩), .agg #[.int .i64 (n : Int), .int .u64 (L : Int), .int .i64 (a : Int), .int .i64 (b : Int)]] w fun e w' => e = .returned (.tuple #[.agg #[.int .i64 0, .int .u64 0, .int .i64 0, .int .i64 0], .int .u64 0, .int .i64 50]) ∧ But (fun k => k = p) w w' := by
  have ess : (64 : Int) - (a : Int) - (b : Int) = (s : Int) := by omega
  have ia : ¬ (a : Int) = 64 := by omega
  have ia2 : (a : Int) ≤ 63 := by omega
  have ib2 : (b : Int) ≤ 63 := by omega
  have hs64 := hide (show s ≤ 64 by omega)
  replace hr := hide hr
  replace hx := hide hx
  replace hr2 := hide hr2
  replace hx2 := hide hx2
  replace hr3 := hide hr3
  replace hab := hide hab
  replace hss := hide hss
  have E0 := RGS.start h H hap few h8
  have hz := zero36
  have hpl := h.lt
  have S0 : Hid (Nx ((w.alloc (.cells #[.int .i64 (n : Int), .int .u64 (L : Int), .int .i64 (a : Int), .int .i64 (b : Int)] 36)).alloc (.cells #[.int .i64 0, .int .u64 0, .int .i64 0, .int .i64 0] 36)) p w.heap.size 36 #[.int .i64 (n : Int), .int .u64 (L : Int), .int .i64 (a : Int), .int .i64 (b : Int)]) := ⟨(Bx.new w 36 _).alloc _, by omega⟩
  have R0 : Hid (Nx ((w.alloc (.cells #[.int .i64 (n : Int), .int .u64 (L : Int), .int .i64 (a : Int), .int .i64 (b : Int)] 36)).alloc (.cells #[.int .i64 0, .int .u64 0, .int .i64 0, .int .i64 0] 36)) p (w.heap.size + 1) 36 #[.int .i64 0, .int .u64 0, .int .i64 0, .int .i64 0]) := ⟨Bx.new_at (by simp) 36 _, by omega⟩
  have E1 := hide ((E0.alloc (.cells #[.int .i64 (n : Int), .int .u64 (L : Int), .int .i64 (a : Int), .int .i64 (b : Int)] 36)).alloc (.cells #[.int .i64 0, .int .u64 0, .int .i64 0, .int .i64 0] 36))
  have RI := hide (right_any (n : Int) (L : Int) (a : Int) (b : Int))
  replace hpl := hide hpl
  clear E0 h H hap few h8
  rw [okSI_of hs] at RI
  have i0 : ¬ (n : Int) = 0 := by omega
  have i1 : (n : Int) ≤ 4096 := by have := hs.n; omega
  have i2 : 0 ≤ (n : Int) := by omega
  clear hs hn
  go_enter Tryd.func26, Tryd.ntmps26
  go_wp2_with fail
  refine (RI.out _).mono ?_
  rintro e w2 ⟨rfl, b2⟩
  have E2 := hide (E1.out.below b2)
  have R2 := hide (R0.out.below b2)
  have S2 := hide (S0.out.below b2)
  clear E1 R0 S0 b2 RI
  have s0 := S2.out.bx.st4.c0
  have s1 := S2.out.bx.st4.c1
  have s2 := S2.out.bx.st4.c2
  have s3 := S2.out.bx.st4.c3
  have O3 : Hid (Nx (w2.alloc (.cells #[.int .i64 ((n : Int) + 1), .int .u64 (L : Int), .int .i64 (a : Int), .int .i64 (b : Int)] 36)) p w2.heap.size 36 #[.int .i64 ((n : Int) + 1), .int .u64 (L : Int), .int .i64 (a : Int), .int .i64 (b : Int)]) := ⟨Bx.new w2 36 _, by have := E2.out.rf.lt; omega⟩
  have E3 := hide (E2.out.alloc (.cells #[.int .i64 ((n : Int) + 1), .int .u64 (L : Int), .int .i64 (a : Int), .int .i64 (b : Int)] 36))
  have R3 := hide (R2.out.alloc (.cells #[.int .i64 ((n : Int) + 1), .int .u64 (L : Int), .int .i64 (a : Int), .int .i64 (b : Int)] 36))
  have S3 := hide (S2.out.alloc (.cells #[.int .i64 ((n : Int) + 1), .int .u64 (L : Int), .int .i64 (a : Int), .int .i64 (b : Int)] 36))
  have hg3 : Hid (w.heap.size + 1 < w2.heap.size) := R2.out.bx.lt
  clear E2 R2 S2
  have P := hide (getRf E3.out.rf E3.out.H E3.out.hap E3.out.few 1 (ni := 1) (xi := 1) (x := 1) rfl hx.out rfl (by decide) hr.out)
  go_wp2_with fail
  refine P.out.mono ?_
  rintro e w4 ⟨rfl, W4, D4⟩
  have E4 := hide (E3.out.get D4 W4 hr.out)
  have R4 := hide (R3.out.get D4)
  have S4 := hide (S3.out.get D4)
  have O4 := hide (O3.out.get D4)
  clear P E3 W4 D4 R3 S3 O3
  have P := hide (getRf E4.out.rf E4.out.H E4.out.hap E4.out.few 1 (ni := 1) (xi := 0) (x := 0) rfl hx2.out rfl (by decide) hr2.out)
  go_wp2_with fail
  refine P.out.mono ?_
  rintro e w5 ⟨rfl, W5, D5⟩
  have E5 := hide (E4.out.get D5 W5 hr2.out)
  have R5 := hide (R4.out.get D5)
  have S5 := hide (S4.out.get D5)
  have O5 := hide (O4.out.get D5)
  clear P E4 W5 D5 R4 S4 O4
  clear s0 s1 s2 s3
  have s0 := S5.out.bx.st4.c0
  have s1 := S5.out.bx.st4.c1
  have s2 := S5.out.bx.st4.c2
  have s3 := S5.out.bx.st4.c3
  have o0 := O5.out.bx.st4.c0
  have o1 := O5.out.bx.st4.c1
  have o2 := O5.out.bx.st4.c2
  have o3 := O5.out.bx.st4.c3
  have P := hide (getRf_no E5.out.rf E5.out.few s (ni := (s : Int)) rfl hs64.out E5.out.n8 hr3.out)
  go_wp2_with fail
  refine P.out.mono ?_
  rintro e w6 ⟨rfl, j, hj⟩
  have E6 := hide (E5.out.drewN j)
  have R6 := hide (R5.out.drewN j)
  have S6 := hide (S5.out.drewN j)
  have O6 := hide (O5.out.drewN j)
  rw [← hj] at E6 R6 S6 O6
  clear P E5 hj R5 S5 O5
  clear s0 s1 s2 s3
  clear o0 o1 o2 o3
  have X2 := (R6.out.bx.set4 (.int .i64 0) (.int .u64 0) (.int .i64 0) (.int .i64 0)).st4
  have FIN := hide (E6.out.set (but_set4 w6 (w.heap.size + 1) (.int .i64 0) (.int .u64 0) (.int .i64 0) (.int .i64 0)) (by omega) R6.out.ne)
  obtain ⟨p0, p1, p2, p3, p4, p5, p6, p7, p8, p9, p10⟩ := R6.out.bx.st4
  have z0 := X2.c0
  have z1 := X2.c1
  have z2 := X2.c2
  have z3 := X2.c3
  clear X2
  go_wp2_with fail
  refine bodyPost_ret (v := .tuple #[.agg #[.int .i64 0, .int .u64 0, .int .i64 0, .int .i64 0], .int .u64 0, .int .i64 50]) (by simp [results, Tryd.f26, go_sem, z0, z1, z2, z3]) rfl ?_
  exact ⟨rfl, FIN.out.but⟩
set_option maxRecDepth 100000 in
set_option maxHeartbeats 8000000 in
theorem rg1_i0 {w : World} {base p m len cap : Nat} {ad : Option Addr} {l : List Int} (h : Ref w base p ad len cap m) (H : Has w ad len cap l) (hap : 0 < len → ∀ b off, ad = some ⟨b, off, none⟩ → b < base) (few : len ≤ 300) (h8 : m ≤ 8 * len) {n L a b : Nat} (hn : n ≠ 0) (hs : OkS n a b) (hr : m + 1 ≤ 8 * len) (hx : rd (num l) len m 1 = 1) (hr2 : m + 2 ≤ 8 * len) (hx2 : rd (num l) len (m + 1) 1 = 0) (hab : a + b ≤ 63) {s : Nat} (hss : s = 64 - a - b) (hr3 : m + 2 + s ≤ 8 * len) {x y : Nat} (hy : rd (num l) len (m + 2) s = y) (hxy : y * 2 ^ b = x) (hx64 : y * 2 ^ b < 18446744073709551616) (h0 : x = 0) :
    Calls Tryd.prog 26 #[.pointer (some ⟨p, 0, none⟩), .agg #[.int .i64 (n : Int), .int .u64 (L : Int), .int .i64 (a : Int), .int .i64 (b : Int)]] w fun e w' => e = .returned (.tuple #[.agg #[.int .i64 0, .int .u64 0, .int .i64 0, .int .i64 0], .int .u64 0, .int .i64 50]) ∧ But (fun k => k = p) w w' := by
  have ess : (64 : Int) - (a : Int) - (b : Int) = (s : Int) := by omega
  have ia : ¬ (a : Int) = 64 := by omega
  have ia2 : (a : Int) ≤ 63 := by omega
  have ib2 : (b : Int) ≤ 63 := by omega
  have hs64 := hide (show s ≤ 64 by omega)
  have hfb := hide (show b ≤ 63 by omega)
  replace hr := hide hr
  replace hx := hide hx
  replace hr2 := hide hr2
  replace hx2 := hide hx2
  replace hr3 := hide hr3
  replace hab := hide hab
  replace hss := hide hss
  replace hy := hide hy
  replace hxy := hide hxy
  replace hx64 := hide hx64
  have E0 := RGS.start h H hap few h8
  have hz := zero36
  have hpl := h.lt
  have S0 : Hid (Nx ((w.alloc (.cells #[.int .i64 (n : Int), .int .u64 (L : Int), .int .i64 (a : Int), .int .i64 (b : Int)] 36)).alloc (.cells #[.int .i64 0, .int .u64 0, .int .i64 0, .int .i64 0] 36)) p w.heap.size 36 #[.int .i64 (n : Int), .int .u64 (L : Int), .int .i64 (a : Int), .int .i64 (b : Int)]) := ⟨(Bx.new w 36 _).alloc _, by omega⟩
  have R0 : Hid (Nx ((w.alloc (.cells #[.int .i64 (n : Int), .int .u64 (L : Int), .int .i64 (a : Int), .int .i64 (b : Int)] 36)).alloc (.cells #[.int .i64 0, .int .u64 0, .int .i64 0, .int .i64 0] 36)) p (w.heap.size + 1) 36 #[.int .i64 0, .int .u64 0, .int .i64 0, .int .i64 0]) := ⟨Bx.new_at (by simp) 36 _, by omega⟩
  have E1 := hide ((E0.alloc (.cells #[.int .i64 (n : Int), .int .u64 (L : Int), .int .i64 (a : Int), .int .i64 (b : Int)] 36)).alloc (.cells #[.int .i64 0, .int .u64 0, .int .i64 0, .int .i64 0] 36))
  have RI := hide (right_any (n : Int) (L : Int) (a : Int) (b : Int))
  replace hpl := hide hpl
  clear E0 h H hap few h8
  rw [okSI_of hs] at RI
  have i0 : ¬ (n : Int) = 0 := by omega
  have i1 : (n : Int) ≤ 4096 := by have := hs.n; omega
  have i2 : 0 ≤ (n : Int) := by omega
  clear hs hn
  go_enter Tryd.func26, Tryd.ntmps26
  go_wp2_with fail
  refine (RI.out _).mono ?_
  rintro e w2 ⟨rfl, b2⟩
  have E2 := hide (E1.out.below b2)
  have R2 := hide (R0.out.below b2)
  have S2 := hide (S0.out.below b2)
  clear E1 R0 S0 b2 RI
  have s0 := S2.out.bx.st4.c0
  have s1 := S2.out.bx.st4.c1
  have s2 := S2.out.bx.st4.c2
  have s3 := S2.out.bx.st4.c3
  have O3 : Hid (Nx (w2.alloc (.cells #[.int .i64 ((n : Int) + 1), .int .u64 (L : Int), .int .i64 (a : Int), .int .i64 (b : Int)] 36)) p w2.heap.size 36 #[.int .i64 ((n : Int) + 1), .int .u64 (L : Int), .int .i64 (a : Int), .int .i64 (b : Int)]) := ⟨Bx.new w2 36 _, by have := E2.out.rf.lt; omega⟩
  have E3 := hide (E2.out.alloc (.cells #[.int .i64 ((n : Int) + 1), .int .u64 (L : Int), .int .i64 (a : Int), .int .i64 (b : Int)] 36))
  have R3 := hide (R2.out.alloc (.cells #[.int .i64 ((n : Int) + 1), .int .u64 (L : Int), .int .i64 (a : Int), .int .i64 (b : Int)] 36))
  have S3 := hide (S2.out.alloc (.cells #[.int .i64 ((n : Int) + 1), .int .u64 (L : Int), .int .i64 (a : Int), .int .i64 (b : Int)] 36))
  have hg3 : Hid (w.heap.size + 1 < w2.heap.size) := R2.out.bx.lt
  clear E2 R2 S2
  have P := hide (getRf E3.out.rf E3.out.H E3.out.hap E3.out.few 1 (ni := 1) (xi := 1) (x := 1) rfl hx.out rfl (by decide) hr.out)
  go_wp2_with fail
  refine P.out.mono ?_
  rintro e w4 ⟨rfl, W4, D4⟩
  have E4 := hide (E3.out.get D4 W4 hr.out)
  have R4 := hide (R3.out.get D4)
  have S4 := hide (S3.out.get D4)
  have O4 := hide (O3.out.get D4)
  clear P E3 W4 D4 R3 S3 O3
  have P := hide (getRf E4.out.rf E4.out.H E4.out.hap E4.out.few 1 (ni := 1) (xi := 0) (x := 0) rfl hx2.out rfl (by decide) hr2.out)
  go_wp2_with fail
  refine P.out.mono ?_
  rintro e w5 ⟨rfl, W5, D5⟩
  have E5 := hide (E4.out.get D5 W5 hr2.out)
  have R5 := hide (R4.out.get D5)
  have S5 := hide (S4.out.get D5)
  have O5 := hide (O4.out.get D5)
  clear P E4 W5 D5 R4 S4 O4
  clear s0 s1 s2 s3
  have s0 := S5.out.bx.st4.c0
  have s1 := S5.out.bx.st4.c1
  have s2 := S5.out.bx.st4.c2
  have s3 := S5.out.bx.st4.c3
  have o0 := O5.out.bx.st4.c0
  have o1 := O5.out.bx.st4.c1
  have o2 := O5.out.bx.st4.c2
  have o3 := O5.out.bx.st4.c3
  have P := hide (getRf E5.out.rf E5.out.H E5.out.hap E5.out.few s (ni := (s : Int)) (xi := (y : Int)) (x := y) rfl hy.out rfl hs64.out hr3.out)
  go_wp2_with fail
  refine P.out.mono ?_
  rintro e w6 ⟨rfl, W6, D6⟩
  have E6 := hide (E5.out.get D6 W6 hr3.out)
  have R6 := hide (R5.out.get D6)
  have S6 := hide (S5.out.get D6)
  have O6 := hide (O5.out.get D6)
  clear P E5 W6 D6 R5 S5 O5
  clear s0 s1 s2 s3
  clear o0 o1 o2 o3
  have o0 := O6.out.bx.st4.c0
  have o1 := O6.out.bx.st4.c1
  have o2 := O6.out.bx.st4.c2
  have o3 := O6.out.bx.st4.c3
  go_wp2_with fail
  go_loopw [17, 18] (fun xv kv wr => ∃ (k z : Nat), k ≤ b ∧ kv = .int .i64 (k : Int) ∧ xv = .int .u64 (z : Int) ∧ Hid (z = y * 2 ^ k) ∧ wr = w6) (fun _ kv _ => b - (intOf kv).toNat)
  case atStart => exact ⟨0, y, Nat.zero_le _, rfl, rfl, by show _ = _; simp, rfl⟩
  case round =>
    obtain ⟨k, z, hk, rfl, rfl, hzz, hwr⟩ := hrel
    subst hwr
    by_cases hlt : k < b
    · have i8 : (k : Int) < (b : Int) := by omega
      have i9 : (k : Int) ≤ 63 := by have := hfb.out; omega
      have hz2 : Hid (2 * z = y * 2 ^ (k + 1)) := by show _ = _; rw [hzz.out, Nat.pow_succ, Nat.mul_comm 2 (y * 2 ^ k), Nat.mul_assoc]
      have hz3 : 2 * z < 18446744073709551616 := by
        have h1 : 2 ^ (k + 1) ≤ 2 ^ b := Nat.pow_le_pow_right (by decide) hlt
        have h2 := Nat.mul_le_mul_left y h1
        have := hx64.out
        rw [← hz2.out] at h2
        omega
      have e2 : (2 : Int) * (z : Int) = ((2 * z : Nat) : Int) := by omega
      have i10 : ((2 * z : Nat) : Int) < 18446744073709551616 := by omega
      replace hz3 := hide hz3
      generalize 2 * z = z' at *
      go_wp2_with fail
      go_roundw
      case rel => exact ⟨k + 1, z', by omega, by go_num, rfl, hz2, trivial⟩
      case measure => simp [intOf]; omega
    · obtain rfl : k = b := by omega
      have hzx : z = x := by rw [hzz.out]; exact hxy.out
      subst hzx
      have i8 : ¬ (k : Int) < (k : Int) := by omega
      have iz : (z : Int) = 0 := by omega
      clear o0 o1 o2 o3
      have o0 := O6.out.bx.st4.c0
      have o1 := O6.out.bx.st4.c1
      have o2 := O6.out.bx.st4.c2
      have o3 := O6.out.bx.st4.c3
      have X2 := (R6.out.bx.set4 (.int .i64 0) (.int .u64 0) (.int .i64 0) (.int .i64 0)).st4
      have FIN := hide (E6.out.set (but_set4 wr (w.heap.size + 1) (.int .i64 0) (.int .u64 0) (.int .i64 0) (.int .i64 0)) (by omega) R6.out.ne)
      obtain ⟨p0, p1, p2, p3, p4, p5, p6, p7, p8, p9, p10⟩ := R6.out.bx.st4
      have z0 := X2.c0
      have z1 := X2.c1
      have z2 := X2.c2
      have z3 := X2.c3
      clear X2
      go_wp2_with fail
      refine bodyPost_ret (v := .tuple #[.agg #[.int .i64 0, .int .u64 0, .int .i64 0, .int .i64 0], .int .u64 0, .int .i64 50]) (by simp [results, Tryd.f26, go_sem, z0, z1, z2, z3]) rfl ?_
      exact ⟨rfl, FIN.out.but⟩
set_option maxRecDepth 100000 in
set_option maxHeartbeats 8000000 in
theorem rg1_i {w : World} {base p m len cap : Nat} {ad : Option Addr} {l : List Int} (h : Ref w base p ad len cap m) (H : Has w ad len cap l) (hap : 0 < len → ∀ b off, ad = some ⟨b, off, none⟩ → b < base) (few : len ≤ 300) (h8 : m ≤ 8 * len) {n L a b : Nat} (hn : n ≠ 0) (hs : OkS n a b) (hr : m + 1 ≤ 8 * len) (hx : rd (num l) len m 1 = 1) (hr2 : m + 2 ≤ 8 * len) (hx2 : rd (num l) len (m + 1) 1 = 0) (hab : a + b ≤ 63) {s : Nat} (hss : s = 64 - a - b) (hr3 : m + 2 + s ≤ 8 * len) {x y : Nat} (hy : rd (num l) len (m + 2) s = y) (hxy : y * 2 ^ b = x) (hx64 : y * 2 ^ b < 18446744073709551616) (h0 : x ≠ 0) (hL : L < 18446744073709551616) {X : Nat} (hX : L ^^^ x = X) :
    Calls Tryd.prog 26 #[.pointer (some ⟨p, 0, none⟩), .agg #[.int .i64 (n : Int), .int .u64 (L : Int), .int .i64 (a : Int), .int .i64 (b : Int)]] w fun e w' => e = .returned (.tuple #[.agg #[.int .i64 ((n : Int) + 1), .int .u64 (X : Int), .int .i64 (a : Int), .int .i64 (b : Int)], .int .u64 (X : Int), .int .i64 0]) ∧ Ref w' base p ad len cap (m + 2 + s) ∧ But (fun k => k = p) w w' := by
  have hxor := u64_xor_nat L x hL (by omega)
  rw [hX] at hxor
  have EN := hide (fun w => ends_any x w (by omega) (by omega))
  have ess : (64 : Int) - (a : Int) - (b : Int) = (s : Int) := by omega
  have ia : ¬ (a : Int) = 64 := by omega
  have ia2 : (a : Int) ≤ 63 := by omega
  have ib2 : (b : Int) ≤ 63 := by omega
  have hs64 := hide (show s ≤ 64 by omega)
  have hfb := hide (show b ≤ 63 by omega)
  replace hr := hide hr
  replace hx := hide hx
  replace hr2 := hide hr2
  replace hx2 := hide hx2
  replace hr3 := hide hr3
  replace hab := hide hab
  replace hss := hide hss
  replace hy := hide hy
  replace hxy := hide hxy
  replace hx64 := hide hx64
  have E0 := RGS.start h H hap few h8
  have hz := zero36
  have hpl := h.lt
  have S0 : Hid (Nx ((w.alloc (.cells #[.int .i64 (n : Int), .int .u64 (L : Int), .int .i64 (a : Int), .int .i64 (b : Int)] 36)).alloc (.cells #[.int .i64 0, .int .u64 0, .int .i64 0, .int .i64 0] 36)) p w.heap.size 36 #[.int .i64 (n : Int), .int .u64 (L : Int), .int .i64 (a : Int), .int .i64 (b : Int)]) := ⟨(Bx.new w 36 _).alloc _, by omega⟩
  have R0 : Hid (Nx ((w.alloc (.cells #[.int .i64 (n : Int), .int .u64 (L : Int), .int .i64 (a : Int), .int .i64 (b : Int)] 36)).alloc (.cells #[.int .i64 0, .int .u64 0, .int .i64 0, .int .i64 0] 36)) p (w.heap.size + 1) 36 #[.int .i64 0, .int .u64 0, .int .i64 0, .int .i64 0]) := ⟨Bx.new_at (by simp) 36 _, by omega⟩
  have E1 := hide ((E0.alloc (.cells #[.int .i64 (n : Int), .int .u64 (L : Int), .int .i64 (a : Int), .int .i64 (b : Int)] 36)).alloc (.cells #[.int .i64 0, .int .u64 0, .int .i64 0, .int .i64 0] 36))
  have RI := hide (right_any (n : Int) (L : Int) (a : Int) (b : Int))
  replace hpl := hide hpl
  clear E0 h H hap few h8
  rw [okSI_of hs] at RI
  have i0 : ¬ (n : Int) = 0 := by omega
  have i1 : (n : Int) ≤ 4096 := by have := hs.n; omega
  have i2 : 0 ≤ (n : Int) := by omega
  clear hs hn hL hX
  go_enter Tryd.func26, Tryd.ntmps26
  go_wp2_with fail
  refine (RI.out _).mono ?_
  rintro e w2 ⟨rfl, b2⟩
  have E2 := hide (E1.out.below b2)
  have R2 := hide (R0.out.below b2)
  have S2 := hide (S0.out.below b2)
  clear E1 R0 S0 b2 RI
  have s0 := S2.out.bx.st4.c0
  have s1 := S2.out.bx.st4.c1
  have s2 := S2.out.bx.st4.c2
  have s3 := S2.out.bx.st4.c3
  have O3 : Hid (Nx (w2.alloc (.cells #[.int .i64 ((n : Int) + 1), .int .u64 (L : Int), .int .i64 (a : Int), .int .i64 (b : Int)] 36)) p w2.heap.size 36 #[.int .i64 ((n : Int) + 1), .int .u64 (L : Int), .int .i64 (a : Int), .int .i64 (b : Int)]) := ⟨Bx.new w2 36 _, by have := E2.out.rf.lt; omega⟩
  have E3 := hide (E2.out.alloc (.cells #[.int .i64 ((n : Int) + 1), .int .u64 (L : Int), .int .i64 (a : Int), .int .i64 (b : Int)] 36))
  have R3 := hide (R2.out.alloc (.cells #[.int .i64 ((n : Int) + 1), .int .u64 (L : Int), .int .i64 (a : Int), .int .i64 (b : Int)] 36))
  have S3 := hide (S2.out.alloc (.cells #[.int .i64 ((n : Int) + 1), .int .u64 (L : Int), .int .i64 (a : Int), .int .i64 (b : Int)] 36))
  have hg3 : Hid (w.heap.size + 1 < w2.heap.size) := R2.out.bx.lt
  clear E2 R2 S2
  have P := hide (getRf E3.out.rf E3.out.H E3.out.hap E3.out.few 1 (ni := 1) (xi := 1) (x := 1) rfl hx.out rfl (by decide) hr.out)
  go_wp2_with fail
  refine P.out.mono ?_
  rintro e w4 ⟨rfl, W4, D4⟩
  have E4 := hide (E3.out.get D4 W4 hr.out)
  have R4 := hide (R3.out.get D4)
  have S4 := hide (S3.out.get D4)
  have O4 := hide (O3.out.get D4)
  clear P E3 W4 D4 R3 S3 O3
  have P := hide (getRf E4.out.rf E4.out.H E4.out.hap E4.out.few 1 (ni := 1) (xi := 0) (x := 0) rfl hx2.out rfl (by decide) hr2.out)
  go_wp2_with fail
  refine P.out.mono ?_
  rintro e w5 ⟨rfl, W5, D5⟩
  have E5 := hide (E4.out.get D5 W5 hr2.out)
  have R5 := hide (R4.out.get D5)
  have S5 := hide (S4.out.get D5)
  have O5 := hide (O4.out.get D5)
  clear P E4 W5 D5 R4 S4 O4
  clear s0 s1 s2 s3
  have s0 := S5.out.bx.st4.c0
  have s1 := S5.out.bx.st4.c1
  have s2 := S5.out.bx.st4.c2
  have s3 := S5.out.bx.st4.c3
  have o0 := O5.out.bx.st4.c0
  have o1 := O5.out.bx.st4.c1
  have o2 := O5.out.bx.st4.c2
  have o3 := O5.out.bx.st4.c3
  have P := hide (getRf E5.out.rf E5.out.H E5.out.hap E5.out.few s (ni := (s : Int)) (xi := (y : Int)) (x := y) rfl hy.out rfl hs64.out hr3.out)
  go_wp2_with fail
  refine P.out.mono ?_
  rintro e w6 ⟨rfl, W6, D6⟩
  have E6 := hide (E5.out.get D6 W6 hr3.out)
  have R6 := hide (R5.out.get D6)
  have S6 := hide (S5.out.get D6)
  have O6 := hide (O5.out.get D6)
  clear P E5 W6 D6 R5 S5 O5
  clear s0 s1 s2 s3
  clear o0 o1 o2 o3
  have o0 := O6.out.bx.st4.c0
  have o1 := O6.out.bx.st4.c1
  have o2 := O6.out.bx.st4.c2
  have o3 := O6.out.bx.st4.c3
  go_wp2_with fail
  go_loopw [17, 18] (fun xv kv wr => ∃ (k z : Nat), k ≤ b ∧ kv = .int .i64 (k : Int) ∧ xv = .int .u64 (z : Int) ∧ Hid (z = y * 2 ^ k) ∧ wr = w6) (fun _ kv _ => b - (intOf kv).toNat)
  case atStart => exact ⟨0, y, Nat.zero_le _, rfl, rfl, by show _ = _; simp, rfl⟩
  case round =>
    obtain ⟨k, z, hk, rfl, rfl, hzz, hwr⟩ := hrel
    subst hwr
    by_cases hlt : k < b
    · have i8 : (k : Int) < (b : Int) := by omega
      have i9 : (k : Int) ≤ 63 := by have := hfb.out; omega
      have hz2 : Hid (2 * z = y * 2 ^ (k + 1)) := by show _ = _; rw [hzz.out, Nat.pow_succ, Nat.mul_comm 2 (y * 2 ^ k), Nat.mul_assoc]
      have hz3 : 2 * z < 18446744073709551616 := by
        have h1 : 2 ^ (k + 1) ≤ 2 ^ b := Nat.pow_le_pow_right (by decide) hlt
        have h2 := Nat.mul_le_mul_left y h1
        have := hx64.out
        rw [← hz2.out] at h2
        omega
      have e2 : (2 : Int) * (z : Int) = ((2 * z : Nat) : Int) := by omega
      have i10 : ((2 * z : Nat) : Int) < 18446744073709551616 := by omega
      replace hz3 := hide hz3
      generalize 2 * z = z' at *
      go_wp2_with fail
      go_roundw
      case rel => exact ⟨k + 1, z', by omega, by go_num, rfl, hz2, trivial⟩
      case measure => simp [intOf]; omega
    · obtain rfl : k = b := by omega
      have hzx : z = x := by rw [hzz.out]; exact hxy.out
      subst hzx
      have i8 : ¬ (k : Int) < (k : Int) := by omega
      have iz : ¬ (z : Int) = 0 := by omega
      have s0 := S6.out.bx.st4.c0
      have s1 := S6.out.bx.st4.c1
      have s2 := S6.out.bx.st4.c2
      have s3 := S6.out.bx.st4.c3
      go_wp2_with fail
      refine (EN.out _).mono ?_
      rintro e wq ⟨rfl, hwq⟩
      rw [hwq]
      clear hwq wq EN
      have bt : But (fun i => i = w2.heap.size) wr (wr.setCell ⟨w2.heap.size, 1, none⟩ (.int .u64 (X : Int))) := (But.refl (fun i => i = w2.heap.size) wr).setCell (p := ⟨w2.heap.size, 1, none⟩) (fun _ => rfl) _
      have f1 := O6.out.bx.fz 1
      have E7 := hide (E6.out.set bt (by have := hg3.out; omega) O6.out.ne)
      have R7 := hide (R6.out.but bt (by have := hg3.out; omega))
      have O7 : Hid (Nx (wr.setCell ⟨w2.heap.size, 1, none⟩ (.int .u64 (X : Int))) p w2.heap.size 36 #[.int .i64 ((n : Int) + 1), .int .u64 (X : Int), .int .i64 (a : Int), .int .i64 (k : Int)]) := ⟨O6.out.bx.set1 1 _, O6.out.ne⟩
      clear bt
      go_wp2_with fail
      obtain ⟨w8, hw8⟩ : ∃ w8, w8 = (wr.setCell ⟨w2.heap.size, 1, none⟩ (.int .u64 (X : Int))) := ⟨_, rfl⟩
      simp only [← hw8] at E7 R7 O7 ⊢
      clear hw8
      obtain ⟨gO, hgO⟩ : ∃ g, g = w2.heap.size := ⟨_, rfl⟩
      simp only [← hgO] at O7 hg3 ⊢
      clear hgO
      have X2 := (R7.out.bx.set4 (.int .i64 ((n : Int) + 1)) (.int .u64 (X : Int)) (.int .i64 (a : Int)) (.int .i64 (k : Int))).st4
      have FIN := hide (E7.out.set (but_set4 w8 (w.heap.size + 1) (.int .i64 ((n : Int) + 1)) (.int .u64 (X : Int)) (.int .i64 (a : Int)) (.int .i64 (k : Int))) (by omega) R7.out.ne).drew
      obtain ⟨p0, p1, p2, p3, p4, p5, p6, p7, p8, p9, p10⟩ := R7.out.bx.st4
      have z0 := X2.c0
      have z1 := X2.c1
      have z2 := X2.c2
      have z3 := X2.c3
      clear X2
      have Oz := hide (O7.out.but (but_set4 w8 (w.heap.size + 1) (.int .i64 ((n : Int) + 1)) (.int .u64 (X : Int)) (.int .i64 (a : Int)) (.int .i64 (k : Int))) (by have := hg3.out; omega)).drew
      refine wp_region_noPanic ?_
      refine wp_region_held_drew (S := (fun w' => St4 w' gO (.int .i64 ((n : Int) + 1)) (.int .u64 (X : Int)) (.int .i64 (a : Int)) (.int .i64 (k : Int)))) (by kernel_rfl) O7.out.drew.bx.st4 (fun hH0 => ?_)
      refine wpAnyH_take (i := 0) (oi := { dst := some 185, op := Op.load 36 (Operand.tmp 9), type := 36, pos := "ref.go:134", after := #[], guard := none }) (v := ?_) rfl (by kernel_rfl) (by kernel_rfl) (by kernel_rfl) (fun _ _ _ h => h) (Or.inl ⟨by rfl, ?_⟩) hH0 ?_
      rotate_left
      · intro w' hw'
        obtain ⟨o0, o1, o2, o3, -, -, -, -, -, -, -⟩ := hw'
        go_simp
        try with_reducible rfl
      try simp only [Act.put, List.setIfInBounds_toArray, List.set_cons_zero, List.set_cons_succ]
      refine wpAnyH_take (i := 1) (oi := { dst := some 186, op := Op.fieldAddr 36 (Operand.tmp 9) 1, type := 0, pos := "ref.go:134", after := #[{ on := 3, ground := Ground.gcOnly Departure.lateStores }], guard := none }) (v := ?_) rfl (by kernel_rfl) (by kernel_rfl) (by kernel_rfl) (fun _ _ _ h => h) (Or.inl ⟨by rfl, ?_⟩) hH0 ?_
      rotate_left
      · intro w' hw'
        obtain ⟨o0, o1, o2, o3, -, -, -, -, -, -, -⟩ := hw'
        go_simp
        try with_reducible rfl
      try simp only [Act.put, List.setIfInBounds_toArray, List.set_cons_zero, List.set_cons_succ]
      refine wpAnyH_take (i := 2) (oi := { dst := some 187, op := Op.load 22 (Operand.tmp 186), type := 22, pos := "ref.go:134", after := #[{ on := 1, ground := Ground.data }, { on := 3, ground := Ground.gcOnly Departure.lateStores }], guard := none }) (v := ?_) rfl (by kernel_rfl) (by kernel_rfl) (by kernel_rfl) (fun _ _ _ h => h) (Or.inl ⟨by rfl, ?_⟩) hH0 ?_
      rotate_left
      · intro w' hw'
        obtain ⟨o0, o1, o2, o3, -, -, -, -, -, -, -⟩ := hw'
        go_simp
        try with_reducible rfl
      try simp only [Act.put, List.setIfInBounds_toArray, List.set_cons_zero, List.set_cons_succ]
      refine wpAnyH_ready (rs := [3]) (by kernel_rfl) (by simp) ?_
      refine AllReadyH.cons (o := { dst := none, op := Op.store 36 (Operand.tmp 4) (Operand.tmp 185), type := 0, pos := "ref.go:134", after := #[{ on := 0, ground := Ground.data }, { on := 0, ground := Ground.phase }, { on := 1, ground := Ground.textOnly Departure.lateStores }, { on := 2, ground := Ground.textOnly Departure.lateStores }], guard := none }) rfl (fun K hK => ?_) AllReadyH.nil
      go_simp
      refine hK.out _ _ Oz.out.bx.st4 (fun hH1 => ?_)
      clear hK
      try simp only [Act.put, List.setIfInBounds_toArray, List.set_cons_zero, List.set_cons_succ]
      refine wpAnyH_take (i := 4) (oi := { dst := some 5, op := Op.assign (Operand.tmp 187), type := 22, pos := "ref.go:134", after := #[{ on := 2, ground := Ground.data }, { on := 3, ground := Ground.chain }, { on := 0, ground := Ground.phase }, { on := 1, ground := Ground.phase }, { on := 2, ground := Ground.phase }, { on := 3, ground := Ground.phase }], guard := none }) (v := ?_) rfl (by kernel_rfl) (by kernel_rfl) (by kernel_rfl) (fun _ _ _ h => h) (Or.inl ⟨by rfl, ?_⟩) hH1 ?_
      rotate_left
      · intro w' hw'
        obtain ⟨o0, o1, o2, o3, -, -, -, -, -, -, -⟩ := hw'
        go_simp
        try with_reducible rfl
      try simp only [Act.put, List.setIfInBounds_toArray, List.set_cons_zero, List.set_cons_succ]
      refine wpAnyH_take (i := 5) (oi := { dst := some 6, op := Op.assign (Operand.const (Value.int IntKind.i64 0)), type := 32, pos := "ref.go:134", after := #[{ on := 4, ground := Ground.chain }, { on := 0, ground := Ground.phase }, { on := 1, ground := Ground.phase }, { on := 2, ground := Ground.phase }, { on := 3, ground := Ground.phase }, { on := 4, ground := Ground.phase }], guard := none }) (v := ?_) rfl (by kernel_rfl) (by kernel_rfl) (by kernel_rfl) (fun _ _ _ h => h) (Or.inl ⟨by rfl, ?_⟩) hH1 ?_
      rotate_left
      · intro w' hw'
        obtain ⟨o0, o1, o2, o3, -, -, -, -, -, -, -⟩ := hw'
        go_simp
        try with_reducible rfl
      try simp only [Act.put, List.setIfInBounds_toArray, List.set_cons_zero, List.set_cons_succ]
      refine wpAnyH_done (by kernel_rfl) ?_ _
      refine NoPanic.normal ?_
      go_wp2_with fail
      refine bodyPost_ret (v := .tuple #[.agg #[.int .i64 ((n : Int) + 1), .int .u64 (X : Int), .int .i64 (a : Int), .int .i64 (k : Int)], .int .u64 (X : Int), .int .i64 0]) (by simp [results, Tryd.f26, go_sem, z0, z1, z2, z3]) rfl ?_
      exact ⟨rfl, FIN.out.rf, FIN.out.but⟩
end Go.Proofs.YtmddkinecplooaaDoor
