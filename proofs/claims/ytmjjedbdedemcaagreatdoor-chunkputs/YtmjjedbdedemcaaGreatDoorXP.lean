/-
  xor.Get.
-/
import Derived.Test.YtmjjedbdedemcaaGreatDoorXN
import Derived.Test.YtmjjedbdedemcaaGreatDoorSD
namespace Go.Proofs.YtmjjedbdedemcaaGreatDoor
open Go.RowKit
set_option linter.unusedVariables false

set_option linter.unusedSimpArgs false

theorem rF_bound {a b V N m mk fa fb m' : Nat} (hw : OkW a b) (h : rF a b V N m = some (mk, fa, fb, m')) : fa + fb ≤ 64 ∧ m ≤ m' ∧ m' ≤ 8 * N := by
  have hab : a + b ≤ 64 := by rcases hw with h | h <;> omega
  unfold rF at h
  split at h
  · cases h
  split at h
  · cases h; omega
  split at h
  · cases h
  split at h
  · cases h; omega
  split at h
  · cases h
  split at h
  · cases h
  cases h
  omega
theorem x_lt {mk fa fb V N m : Nat} (h : fa + fb ≤ 64) : rd V N m (fS mk fa fb) * 2 ^ fb < 18446744073709551616 := by
  have h1 := rd_lt V N m (fS mk fa fb)
  unfold fS at *
  by_cases h0 : mk = 0
  · rw [if_pos h0] at *
    simp at h1
    rw [h1]; simp
  · rw [if_neg h0] at *
    have h2 := shl_lt h h1
    have h3 := p64 (a := fa)
    omega

set_option maxRecDepth 100000 in
set_option maxHeartbeats 4000000 in
theorem read0_ok {w : World} {base p m : Nat} {v : Value} {l : List Int} (h : Rd w base p v l m) (ht : TabX w) (hb0 : 2 < base) {L a b V : Nat} (hr : m + 64 ≤ 8 * l.length) (hV : rd (num l) l.length m 64 = V) :
    Calls Tryz.prog 107 #[.pointer (some ⟨p, 0, none⟩), .agg #[.int .i64 0, .int .u64 (L : Int), .int .i64 (a : Int), .int .i64 (b : Int)]] w fun e w' => e = .returned (.tuple #[.int .u64 (V : Int), .agg #[.int .i64 (a : Int), .int .i64 (b : Int)], .int .i64 0]) ∧ Rd w' base p v l (m + 64) ∧ Did w w' base p nul nul := by
  replace hr := hide hr
  replace hV := hide hV
  have E0 := GSX.start h ht hb0
  have hz := zero81
  have S0 := hide ((Kx.newG h 61 #[.int .i64 0, .int .u64 (L : Int), .int .i64 (a : Int), .int .i64 (b : Int)]).alloc (.cells #[.int .i64 0, .int .i64 0] 116))
  have E0' := E0.alloc (.cells #[.int .i64 0, .int .u64 (L : Int), .int .i64 (a : Int), .int .i64 (b : Int)] 61)
  have R0 := hide (Kx.newG_at E0'.rd (g := w.heap.size + 1) (by simp) 116 #[.int .i64 0, .int .i64 0])
  have E1 := hide (E0'.alloc (.cells #[.int .i64 0, .int .i64 0] 116))
  have WO := hide (windowOf_any 0 (L : Int) (a : Int) (b : Int))
  clear E0 E0' h ht
  go_enter Tryz.func107, Tryz.ntmps107
  have P := hide (getG E1.out.rd 64 (ni := 64) (xi := (V : Int)) (x := V) rfl hV.out rfl (by decide) hr.out)
  go_wp2_with fail
  refine P.out.mono ?_
  rintro e w2 ⟨rfl, W2, D2⟩
  have E2 := hide (E1.out.get D2 W2)
  have R2 := hide (R0.out.didN D2)
  have S2 := hide (S0.out.didN D2)
  clear P E1 R0 W2 D2 S0
  have s0 := S2.out.bx.st4.c0
  have s1 := S2.out.bx.st4.c1
  have s2 := S2.out.bx.st4.c2
  have s3 := S2.out.bx.st4.c3
  go_wp2_with fail
  refine (WO.out _).mono ?_
  rintro e w6 ⟨rfl, b6⟩
  have E6 := hide (E2.out.below b6)
  have R6 := hide (R2.out.below b6)
  clear E2 R2 S2 b6 s0 s1 s2 s3
  have X2 := (R6.out.bx.set2 (.int .i64 (a : Int)) (.int .i64 (b : Int))).st2
  have FIN := hide (E6.out.but (but_set2 w6 (w.heap.size + 1) (.int .i64 (a : Int)) (.int .i64 (b : Int))) (by omega) R6.out.nf)
  obtain ⟨p0, p1, p2, p3, p4⟩ := R6.out.bx.st2
  have z0 := X2.c0
  have z1 := X2.c1
  clear X2
  go_wp2_with fail
  refine bodyPost_ret (v := .tuple #[.int .u64 (V : Int), .agg #[.int .i64 (a : Int), .int .i64 (b : Int)], .int .i64 0]) (by simp [results, Tryz.f107, go_sem, z0, z1]) rfl ?_
  exact ⟨rfl, FIN.out.rd, FIN.out.d⟩
set_option maxRecDepth 100000 in
set_option maxHeartbeats 4000000 in
theorem read0_no {w : World} {base p m : Nat} {v : Value} {l : List Int} (h : Rd w base p v l m) (ht : TabX w) (hb0 : 2 < base) {L a b : Nat} (hr : 8 * l.length < m + 64) :
    Calls Tryz.prog 107 #[.pointer (some ⟨p, 0, none⟩), .agg #[.int .i64 0, .int .u64 (L : Int), .int .i64 (a : Int), .int .i64 (b : Int)]] w fun e w' => ∃ x y : Int, e = .returned (.tuple #[.int .u64 0, .agg #[.int .i64 x, .int .i64 y], .int .i64 50]) ∧ Did w w' base p nul nul := by
  replace hr := hide hr
  have E0 := GSX.start h ht hb0
  have hz := zero81
  have S0 := hide ((Kx.newG h 61 #[.int .i64 0, .int .u64 (L : Int), .int .i64 (a : Int), .int .i64 (b : Int)]).alloc (.cells #[.int .i64 0, .int .i64 0] 116))
  have E0' := E0.alloc (.cells #[.int .i64 0, .int .u64 (L : Int), .int .i64 (a : Int), .int .i64 (b : Int)] 61)
  have R0 := hide (Kx.newG_at E0'.rd (g := w.heap.size + 1) (by simp) 116 #[.int .i64 0, .int .i64 0])
  have E1 := hide (E0'.alloc (.cells #[.int .i64 0, .int .i64 0] 116))
  have WO := hide (windowOf_any 0 (L : Int) (a : Int) (b : Int))
  clear E0 E0' h ht
  go_enter Tryz.func107, Tryz.ntmps107
  have P := hide (getG_no E1.out.rd 64 (ni := 64) rfl (by decide) hr.out)
  go_wp2_with fail
  refine P.out.mono ?_
  rintro e w2 ⟨rfl, j, hj⟩
  have E2 := hide (E1.out.drewN j)
  have R2 := hide (R0.out.drewN j)
  have S2 := hide (S0.out.drewN j)
  rw [← hj] at E2 R2 S2
  clear P E1 R0 hj S0
  have s0 := S2.out.bx.st4.c0
  have s1 := S2.out.bx.st4.c1
  have s2 := S2.out.bx.st4.c2
  have s3 := S2.out.bx.st4.c3
  go_wp2_with fail
  refine (WO.out _).mono ?_
  rintro e w6 ⟨rfl, b6⟩
  have E6 := hide (E2.out.below b6)
  have R6 := hide (R2.out.below b6)
  clear E2 R2 S2 b6 s0 s1 s2 s3
  have X2 := (R6.out.bx.set2 (.int .i64 (a : Int)) (.int .i64 (b : Int))).st2
  have FIN := hide (E6.out.but (but_set2 w6 (w.heap.size + 1) (.int .i64 (a : Int)) (.int .i64 (b : Int))) (by omega) R6.out.nf)
  obtain ⟨p0, p1, p2, p3, p4⟩ := R6.out.bx.st2
  have z0 := X2.c0
  have z1 := X2.c1
  clear X2
  go_wp2_with fail
  refine bodyPost_ret (v := .tuple #[.int .u64 0, .agg #[.int .i64 (a : Int), .int .i64 (b : Int)], .int .i64 50]) (by simp [results, Tryz.f107, go_sem, z0, z1]) rfl ?_
  exact ⟨_, _, rfl, FIN.out.d⟩
set_option maxRecDepth 100000 in
set_option maxHeartbeats 4000000 in
theorem read1_f {w : World} {base p m : Nat} {v : Value} {l : List Int} (h : Rd w base p v l m) (ht : TabX w) (hb0 : 2 < base) {n L a b : Nat} (hn : n ≠ 0) (hF : rF a b (num l) l.length m = none) :
    Calls Tryz.prog 107 #[.pointer (some ⟨p, 0, none⟩), .agg #[.int .i64 (n : Int), .int .u64 (L : Int), .int .i64 (a : Int), .int .i64 (b : Int)]] w fun e w' => ∃ x y : Int, e = .returned (.tuple #[.int .u64 0, .agg #[.int .i64 x, .int .i64 y], .int .i64 50]) ∧ Did w w' base p nul nul := by
  have i0 : ¬ (n : Int) = 0 := by omega
  replace hF := hide hF
  have E0 := GSX.start h ht hb0
  have hz := zero81
  have S0 := hide ((Kx.newG h 61 #[.int .i64 (n : Int), .int .u64 (L : Int), .int .i64 (a : Int), .int .i64 (b : Int)]).alloc (.cells #[.int .i64 0, .int .i64 0] 116))
  have E0' := E0.alloc (.cells #[.int .i64 (n : Int), .int .u64 (L : Int), .int .i64 (a : Int), .int .i64 (b : Int)] 61)
  have R0 := hide (Kx.newG_at E0'.rd (g := w.heap.size + 1) (by simp) 116 #[.int .i64 0, .int .i64 0])
  have E1 := hide (E0'.alloc (.cells #[.int .i64 0, .int .i64 0] 116))
  have WO := hide (windowOf_any (n : Int) (L : Int) (a : Int) (b : Int))
  clear E0 E0' h ht
  clear hn
  go_enter Tryz.func107, Tryz.ntmps107
  go_wp2_with fail
  refine (WO.out _).mono ?_
  rintro e w2 ⟨rfl, b2⟩
  have E2 := hide (E1.out.below b2)
  have R2 := hide (R0.out.below b2)
  clear E1 R0 S0 b2
  have P := hide (rform_no E2.out.rd E2.out.t E2.out.b0 hF.out)
  go_wp2_with fail
  refine P.out.mono ?_
  rintro e w5 ⟨x, y, z, rfl, D5⟩
  have R5 := hide (R2.out.didN D5)
  have DD := E2.out.d.trans D5
  have bw := hide E2.out.bw
  have hbb := hide (show base ≤ w5.heap.size by have := E2.out.rd.lt; have := D5.bel.size; omega)
  have R6 := hide (R5.out.alloc (.cells #[.int .i64 x, .int .i64 y, .int .i64 z] 153))
  have bt := but_set2 (w5.alloc (.cells #[.int .i64 x, .int .i64 y, .int .i64 z] 153)) (w.heap.size + 1) (.int .i64 0) (.int .i64 0)
  have D6 := DD.post ((Below.refl _ w5).alloc (Nat.le_refl _) (.cells #[.int .i64 x, .int .i64 y, .int .i64 z] 153)) hbb.out
  have hbel : Below base (w5.alloc (.cells #[.int .i64 x, .int .i64 y, .int .i64 z] 153)) _ := bt.below (by simp; have := hbb.out; omega) (fun i hi => by have := bw.out; omega)
  have D7 : Hid (Did w _ base p nul nul) := ⟨D6.bel.trans hbel, D6.but.trans bt (fun i hi e => by omega), D6.own⟩
  clear P E2 R2 D5 DD R5 bt D6 hbel
  have X2 := (R6.out.bx.set2 (.int .i64 0) (.int .i64 0)).st2
  obtain ⟨p0, p1, p2, p3, p4⟩ := R6.out.bx.st2
  have z0 := X2.c0
  have z1 := X2.c1
  clear X2
  go_wp2_with fail
  refine bodyPost_ret (v := .tuple #[.int .u64 0, .agg #[.int .i64 0, .int .i64 0], .int .i64 50]) (by simp [results, Tryz.f107, go_sem, z0, z1]) rfl ?_
  exact ⟨_, _, rfl, D7.out⟩

set_option maxRecDepth 100000 in
set_option maxHeartbeats 4000000 in
theorem read1_b {w : World} {base p m : Nat} {v : Value} {l : List Int} (h : Rd w base p v l m) (ht : TabX w) (hb0 : 2 < base) {n L a b mk fa fb m' : Nat} (hn : n ≠ 0) (hw : OkW a b) (hF : rF a b (num l) l.length m = some (mk, fa, fb, m')) (hr : 8 * l.length < m' + fS mk fa fb) :
    Calls Tryz.prog 107 #[.pointer (some ⟨p, 0, none⟩), .agg #[.int .i64 (n : Int), .int .u64 (L : Int), .int .i64 (a : Int), .int .i64 (b : Int)]] w fun e w' => ∃ x y : Int, e = .returned (.tuple #[.int .u64 0, .agg #[.int .i64 x, .int .i64 y], .int .i64 50]) ∧ Did w w' base p nul nul := by
  have i0 : ¬ (n : Int) = 0 := by omega
  obtain ⟨hfab, hmm, hmN⟩ := rF_bound hw hF
  obtain ⟨s, hs⟩ : ∃ s, fS mk fa fb = s := ⟨_, rfl⟩
  have hs64 := hide (show s ≤ 64 by rw [← hs]; unfold fS; split <;> omega)
  have SZ := hide (fun w => size_anyX (mk : Int) (fa : Int) (fb : Int) (s : Int) w (by omega) (by omega) (by rw [← hs]; unfold fS; by_cases h : mk = 0 <;> simp [h] <;> omega))
  replace hF := hide hF
  rw [hs] at hr
  replace hr := hide hr
  replace hmm := hide hmm
  replace hmN := hide hmN
  have E0 := GSX.start h ht hb0
  have hz := zero81
  have S0 := hide ((Kx.newG h 61 #[.int .i64 (n : Int), .int .u64 (L : Int), .int .i64 (a : Int), .int .i64 (b : Int)]).alloc (.cells #[.int .i64 0, .int .i64 0] 116))
  have E0' := E0.alloc (.cells #[.int .i64 (n : Int), .int .u64 (L : Int), .int .i64 (a : Int), .int .i64 (b : Int)] 61)
  have R0 := hide (Kx.newG_at E0'.rd (g := w.heap.size + 1) (by simp) 116 #[.int .i64 0, .int .i64 0])
  have E1 := hide (E0'.alloc (.cells #[.int .i64 0, .int .i64 0] 116))
  have WO := hide (windowOf_any (n : Int) (L : Int) (a : Int) (b : Int))
  clear E0 E0' h ht
  clear hn
  go_enter Tryz.func107, Tryz.ntmps107
  go_wp2_with fail
  refine (WO.out _).mono ?_
  rintro e w2 ⟨rfl, b2⟩
  have E2 := hide (E1.out.below b2)
  have R2 := hide (R0.out.below b2)
  have S2 := hide (S0.out.below b2)
  clear E1 R0 S0 b2
  have P := hide (rform_ok E2.out.rd E2.out.t E2.out.b0 hF.out)
  go_wp2_with fail
  refine P.out.mono ?_
  rintro e w3 ⟨rfl, W3, D3⟩
  have E3' := E2.out.get D3 W3
  have F3 := hide (Kx.newG E3'.rd 153 #[.int .i64 (mk : Int), .int .i64 (fa : Int), .int .i64 (fb : Int)])
  have R3' := R2.out.didN D3
  have S3' := S2.out.didN D3
  have hg3 : Hid (w.heap.size + 1 < w3.heap.size ∧ w3.heap.size ≠ w.heap.size) := by have := R3'.bx.lt; have := S3'.bx.lt; show _ ∧ _; omega
  have E3 := hide (E3'.alloc (.cells #[.int .i64 (mk : Int), .int .i64 (fa : Int), .int .i64 (fb : Int)] 153))
  have R3 := hide (R3'.alloc (.cells #[.int .i64 (mk : Int), .int .i64 (fa : Int), .int .i64 (fb : Int)] 153))
  have S3 := hide (S3'.alloc (.cells #[.int .i64 (mk : Int), .int .i64 (fa : Int), .int .i64 (fb : Int)] 153))
  clear P E2 R2 S2 W3 D3 E3' R3' S3'
  go_wp2_with fail
  refine (SZ.out _).mono ?_
  rintro e w4 ⟨rfl, b4⟩
  have E4 := hide (E3.out.below b4)
  have R4 := hide (R3.out.below b4)
  have S4 := hide (S3.out.below b4)
  have F4 := hide (F3.out.below b4)
  clear E3 R3 S3 F3 b4 SZ
  have P := hide (getG_no E4.out.rd s (ni := (s : Int)) rfl hs64.out hr.out)
  go_wp2_with fail
  refine P.out.mono ?_
  rintro e w6 ⟨rfl, j, hj⟩
  have E6 := hide (E4.out.drewN j)
  have R6 := hide (R4.out.drewN j)
  rw [← hj] at E6 R6 
  clear P E4 R4 hj 
  have X2 := (R6.out.bx.set2 (.int .i64 0) (.int .i64 0)).st2
  have FIN := hide (E6.out.but (but_set2 w6 (w.heap.size + 1) (.int .i64 0) (.int .i64 0)) (by omega) R6.out.nf)
  obtain ⟨p0, p1, p2, p3, p4⟩ := R6.out.bx.st2
  have z0 := X2.c0
  have z1 := X2.c1
  clear X2
  go_wp2_with fail
  refine bodyPost_ret (v := .tuple #[.int .u64 0, .agg #[.int .i64 0, .int .i64 0], .int .i64 50]) (by simp [results, Tryz.f107, go_sem, z0, z1]) rfl ?_
  exact ⟨_, _, rfl, FIN.out.d⟩
set_option maxRecDepth 100000 in
set_option maxHeartbeats 4000000 in
theorem read1_n {w : World} {base p m : Nat} {v : Value} {l : List Int} (h : Rd w base p v l m) (ht : TabX w) (hb0 : 2 < base) {n L a b mk fa fb m' : Nat} (hn : n ≠ 0) (hw : OkW a b) (hF : rF a b (num l) l.length m = some (mk, fa, fb, m')) (hr : m' + fS mk fa fb ≤ 8 * l.length) (hD : ¬ (dM a b (rd (num l) l.length m' (fS mk fa fb) * 2 ^ fb) = mk ∧ dA a b (rd (num l) l.length m' (fS mk fa fb) * 2 ^ fb) = fa ∧ dB a b (rd (num l) l.length m' (fS mk fa fb) * 2 ^ fb) = fb)) :
    Calls Tryz.prog 107 #[.pointer (some ⟨p, 0, none⟩), .agg #[.int .i64 (n : Int), .int .u64 (L : Int), .int .i64 (a : Int), .int .i64 (b : Int)]] w fun e w' => ∃ x y : Int, e = .returned (.tuple #[.int .u64 0, .agg #[.int .i64 x, .int .i64 y], .int .i64 50]) ∧ Did w w' base p nul nul := by
  have i0 : ¬ (n : Int) = 0 := by omega
  obtain ⟨hfab, hmm, hmN⟩ := rF_bound hw hF
  obtain ⟨s, hs⟩ : ∃ s, fS mk fa fb = s := ⟨_, rfl⟩
  have hs64 := hide (show s ≤ 64 by rw [← hs]; unfold fS; split <;> omega)
  have SZ := hide (fun w => size_anyX (mk : Int) (fa : Int) (fb : Int) (s : Int) w (by omega) (by omega) (by rw [← hs]; unfold fS; by_cases h : mk = 0 <;> simp [h] <;> omega))
  replace hF := hide hF
  rw [hs] at hr
  replace hr := hide hr
  replace hmm := hide hmm
  replace hmN := hide hmN
  have E0 := GSX.start h ht hb0
  have hz := zero81
  have S0 := hide ((Kx.newG h 61 #[.int .i64 (n : Int), .int .u64 (L : Int), .int .i64 (a : Int), .int .i64 (b : Int)]).alloc (.cells #[.int .i64 0, .int .i64 0] 116))
  have E0' := E0.alloc (.cells #[.int .i64 (n : Int), .int .u64 (L : Int), .int .i64 (a : Int), .int .i64 (b : Int)] 61)
  have R0 := hide (Kx.newG_at E0'.rd (g := w.heap.size + 1) (by simp) 116 #[.int .i64 0, .int .i64 0])
  have E1 := hide (E0'.alloc (.cells #[.int .i64 0, .int .i64 0] 116))
  have WO := hide (windowOf_any (n : Int) (L : Int) (a : Int) (b : Int))
  clear E0 E0' h ht
  clear hn
  go_enter Tryz.func107, Tryz.ntmps107
  go_wp2_with fail
  refine (WO.out _).mono ?_
  rintro e w2 ⟨rfl, b2⟩
  have E2 := hide (E1.out.below b2)
  have R2 := hide (R0.out.below b2)
  have S2 := hide (S0.out.below b2)
  clear E1 R0 S0 b2
  have P := hide (rform_ok E2.out.rd E2.out.t E2.out.b0 hF.out)
  go_wp2_with fail
  refine P.out.mono ?_
  rintro e w3 ⟨rfl, W3, D3⟩
  have E3' := E2.out.get D3 W3
  have F3 := hide (Kx.newG E3'.rd 153 #[.int .i64 (mk : Int), .int .i64 (fa : Int), .int .i64 (fb : Int)])
  have R3' := R2.out.didN D3
  have S3' := S2.out.didN D3
  have hg3 : Hid (w.heap.size + 1 < w3.heap.size ∧ w3.heap.size ≠ w.heap.size) := by have := R3'.bx.lt; have := S3'.bx.lt; show _ ∧ _; omega
  have E3 := hide (E3'.alloc (.cells #[.int .i64 (mk : Int), .int .i64 (fa : Int), .int .i64 (fb : Int)] 153))
  have R3 := hide (R3'.alloc (.cells #[.int .i64 (mk : Int), .int .i64 (fa : Int), .int .i64 (fb : Int)] 153))
  have S3 := hide (S3'.alloc (.cells #[.int .i64 (mk : Int), .int .i64 (fa : Int), .int .i64 (fb : Int)] 153))
  clear P E2 R2 S2 W3 D3 E3' R3' S3'
  go_wp2_with fail
  refine (SZ.out _).mono ?_
  rintro e w4 ⟨rfl, b4⟩
  have E4 := hide (E3.out.below b4)
  have R4 := hide (R3.out.below b4)
  have S4 := hide (S3.out.below b4)
  have F4 := hide (F3.out.below b4)
  clear E3 R3 S3 F3 b4 SZ
  obtain ⟨y, hy⟩ : ∃ y, rd (num l) l.length m' s = y := ⟨_, rfl⟩
  have P := hide (getG E4.out.rd s (ni := (s : Int)) (xi := (y : Int)) (x := y) rfl hy rfl hs64.out hr.out)
  go_wp2_with fail
  refine P.out.mono ?_
  rintro e w5 ⟨rfl, W5, D5⟩
  have E5 := hide (E4.out.get D5 W5)
  have R5 := hide (R4.out.didN D5)
  have S5 := hide (S4.out.didN D5)
  have F5 := hide (F4.out.didN D5)
  clear P E4 R4 W5 D5 S4 F4
  have hxx := x_lt (mk := mk) (V := num l) (N := l.length) (m := m') hfab
  rw [hs, hy] at hxx
  have hsh : IntKind.u64.wrap ((y : Int) * 2 ^ fb) = ((y * 2 ^ fb : Nat) : Int) := by
    rw [IntKind.wrap_u64, show (y : Int) * 2 ^ fb = ((y * 2 ^ fb : Nat) : Int) by simp]
    omega
  have hmin : min fb 64 = fb := by omega
  have ifb : (fb : Int) ≤ 64 := by omega
  have FO := hide (fun w => formOf_any (y * 2 ^ fb) a b w hxx (by rcases hw with h | h <;> omega) (by rcases hw with h | h <;> omega))
  rw [hs, hy] at hD
  obtain ⟨x, hxe⟩ : ∃ x, y * 2 ^ fb = x := ⟨_, rfl⟩
  rw [hxe] at hD FO hsh hxx
  obtain ⟨q0, h0q⟩ : ∃ q, dM a b x = q := ⟨_, rfl⟩
  obtain ⟨q1, h1q⟩ : ∃ q, dA a b x = q := ⟨_, rfl⟩
  obtain ⟨q2, h2q⟩ : ∃ q, dB a b x = q := ⟨_, rfl⟩
  rw [h0q, h1q, h2q] at hD FO
  have hneq : ∀ w, (binOp .neq 153 (.agg #[.int .i64 (q0 : Int), .int .i64 (q1 : Int), .int .i64 (q2 : Int)]) (.agg #[.int .i64 (mk : Int), .int .i64 (fa : Int), .int .i64 (fb : Int)])).run Tryz.prog w = .ok (.bool true) w := fun w => by
    rw [run_neq102, show decide ((q0 : Int) = (mk : Int) ∧ (q1 : Int) = (fa : Int) ∧ (q2 : Int) = (fb : Int)) = false by simp; omega]; rfl
  replace hxx := hide hxx
  replace hy := hide hy
  replace hs := hide hs
  replace hfab := hide hfab
  replace hxe := hide hxe
  replace hD := hide hD
  clear h0q h1q h2q
  have s0 := S5.out.bx.st4.c0
  have s1 := S5.out.bx.st4.c1
  have s2 := S5.out.bx.st4.c2
  have s3 := S5.out.bx.st4.c3
  have f0 := F5.out.bx.st3.c0
  have f1 := F5.out.bx.st3.c1
  have f2 := F5.out.bx.st3.c2
  go_wp2_with fail
  obtain ⟨gF, hgF⟩ : ∃ g, g = w3.heap.size := ⟨_, rfl⟩
  simp only [← hgF] at F5 hg3 ⊢
  clear hgF s0 s1 s2 s3 f0 f1 f2
  refine wp_region_noPanic ?_
  refine wp_region_held_drew (S := (fun w' => St4 w' w.heap.size (.int .i64 (n : Int)) (.int .u64 (L : Int)) (.int .i64 (a : Int)) (.int .i64 (b : Int)) ∧ St3 w' gF (.int .i64 (mk : Int)) (.int .i64 (fa : Int)) (.int .i64 (fb : Int)))) (by kernel_rfl) ⟨S5.out.drew.bx.st4, F5.out.drew.bx.st3⟩ (fun hH0 => ?_)
  have E6 := hide E5.out.drew
  have R6 := hide R5.out.drew
  have S6 := hide S5.out.drew
  have F6 := hide F5.out.drew
  clear E5 R5 S5 F5
  refine wpAnyH_take (i := 0) (oi := { dst := some 51, op := Op.move (Operand.tmp 11), type := 31, pos := "xor.go:181", after := #[], guard := none }) (v := ?_) rfl (by kernel_rfl) (by kernel_rfl) (by kernel_rfl) (fun _ _ _ h => h) (Or.inl ⟨by rfl, ?_⟩) hH0 ?_
  rotate_left
  · intro w' hw'
    obtain ⟨⟨s0, s1, s2, s3, -, -, -, -, -, -, -⟩, ⟨f0, f1, f2, -, -, -, -, -⟩⟩ := hw'
    go_simp
    try with_reducible rfl
  try simp only [Act.put, List.setIfInBounds_toArray, List.set_cons_zero, List.set_cons_succ]
  refine wpAnyH_take (i := 1) (oi := { dst := some 52, op := Op.load 61 (Operand.tmp 3), type := 61, pos := "xor.go:181", after := #[], guard := none }) (v := ?_) rfl (by kernel_rfl) (by kernel_rfl) (by kernel_rfl) (fun _ _ _ h => h) (Or.inl ⟨by rfl, ?_⟩) hH0 ?_
  rotate_left
  · intro w' hw'
    obtain ⟨⟨s0, s1, s2, s3, -, -, -, -, -, -, -⟩, ⟨f0, f1, f2, -, -, -, -, -⟩⟩ := hw'
    go_simp
    try with_reducible rfl
  try simp only [Act.put, List.setIfInBounds_toArray, List.set_cons_zero, List.set_cons_succ]
  refine wpAnyH_take (i := 4) (oi := { dst := some 55, op := Op.load 153 (Operand.tmp 9), type := 153, pos := "xor.go:181", after := #[], guard := none }) (v := ?_) rfl (by kernel_rfl) (by kernel_rfl) (by kernel_rfl) (fun _ _ _ h => h) (Or.inl ⟨by rfl, ?_⟩) hH0 ?_
  rotate_left
  · intro w' hw'
    obtain ⟨⟨s0, s1, s2, s3, -, -, -, -, -, -, -⟩, ⟨f0, f1, f2, -, -, -, -, -⟩⟩ := hw'
    go_simp
    try with_reducible rfl
  try simp only [Act.put, List.setIfInBounds_toArray, List.set_cons_zero, List.set_cons_succ]
  refine wpAnyH_ready (rs := [2]) (by kernel_rfl) (by simp) ?_
  refine AllReadyH.cons (o := { dst := some 53, op := Op.call { callee := Callee.value (Operand.func 92), args := #[Operand.tmp 52], argTypes := #[61] }, type := 116, pos := "xor.go:181", after := #[{ on := 1, ground := Ground.data }], guard := none }) rfl (fun K hK => ?_) AllReadyH.nil
  go_simp
  refine (WO.out _).mono ?_
  rintro e w7 ⟨rfl, b7⟩
  have E7 := hide (E6.out.below b7)
  have R7 := hide (R6.out.below b7)
  have S7 := hide (S6.out.below b7)
  have F7 := hide (F6.out.below b7)
  clear E6 R6 S6 F6
  refine hK.out _ _ ⟨S7.out.bx.st4, F7.out.bx.st3⟩ (fun hH1 => ?_)
  clear hK
  try simp only [Act.put, List.setIfInBounds_toArray, List.set_cons_zero, List.set_cons_succ]
  refine wpAnyH_ready (rs := [3]) (by kernel_rfl) (by simp) ?_
  refine AllReadyH.cons (o := { dst := some 54, op := Op.call { callee := Callee.value (Operand.func 94), args := #[Operand.tmp 51, Operand.tmp 53], argTypes := #[31, 116] }, type := 153, pos := "xor.go:181", after := #[{ on := 0, ground := Ground.data }, { on := 2, ground := Ground.data }, { on := 2, ground := Ground.chain }], guard := none }) rfl (fun K hK => ?_) AllReadyH.nil
  go_simp
  refine (FO.out _ E7.out.t).mono ?_
  rintro e w8 ⟨rfl, b8⟩
  have E8 := hide (E7.out.below b8)
  have R8 := hide (R7.out.below b8)
  have S8 := hide (S7.out.below b8)
  have F8 := hide (F7.out.below b8)
  clear E7 R7 S7 F7
  refine hK.out _ _ ⟨S8.out.bx.st4, F8.out.bx.st3⟩ (fun hH2 => ?_)
  clear hK
  try simp only [Act.put, List.setIfInBounds_toArray, List.set_cons_zero, List.set_cons_succ]
  refine wpAnyH_take (i := 5) (oi := { dst := some 56, op := Op.binOp BinOp.neq 153 (Operand.tmp 54) (Operand.tmp 55) 153, type := 4, pos := "xor.go:181", after := #[{ on := 3, ground := Ground.data }, { on := 4, ground := Ground.data }], guard := none }) (v := ?_) rfl (by kernel_rfl) (by kernel_rfl) (by kernel_rfl) (fun _ _ _ h => h) (Or.inl ⟨by rfl, ?_⟩) hH2 ?_
  rotate_left
  · intro w' hw'
    obtain ⟨⟨s0, s1, s2, s3, -, -, -, -, -, -, -⟩, ⟨f0, f1, f2, -, -, -, -, -⟩⟩ := hw'
    go_simp
    try with_reducible rfl
  try simp only [Act.put, List.setIfInBounds_toArray, List.set_cons_zero, List.set_cons_succ]
  refine wpAnyH_done (by kernel_rfl) ?_ _
  refine NoPanic.normal ?_
  have X2 := (R8.out.bx.set2 (.int .i64 0) (.int .i64 0)).st2
  have FIN := hide (E8.out.but (but_set2 w8 (w.heap.size + 1) (.int .i64 0) (.int .i64 0)) (by omega) R8.out.nf)
  obtain ⟨p0, p1, p2, p3, p4⟩ := R8.out.bx.st2
  have z0 := X2.c0
  have z1 := X2.c1
  clear X2
  go_wp2_with fail
  refine bodyPost_ret (v := .tuple #[.int .u64 0, .agg #[.int .i64 0, .int .i64 0], .int .i64 50]) (by simp [results, Tryz.f107, go_sem, z0, z1]) rfl ?_
  exact ⟨_, _, rfl, FIN.out.d⟩
set_option maxRecDepth 100000 in
set_option maxHeartbeats 4000000 in
theorem read1_ok {w : World} {base p m : Nat} {v : Value} {l : List Int} (h : Rd w base p v l m) (ht : TabX w) (hb0 : 2 < base) {n L a b mk fa fb m' : Nat} (hn : n ≠ 0) (hw : OkW a b) (hF : rF a b (num l) l.length m = some (mk, fa, fb, m')) (hL : L < 18446744073709551616) (hr : m' + fS mk fa fb ≤ 8 * l.length) (hD : dM a b (rd (num l) l.length m' (fS mk fa fb) * 2 ^ fb) = mk ∧ dA a b (rd (num l) l.length m' (fS mk fa fb) * 2 ^ fb) = fa ∧ dB a b (rd (num l) l.length m' (fS mk fa fb) * 2 ^ fb) = fb) :
    Calls Tryz.prog 107 #[.pointer (some ⟨p, 0, none⟩), .agg #[.int .i64 (n : Int), .int .u64 (L : Int), .int .i64 (a : Int), .int .i64 (b : Int)]] w fun e w' => e = .returned (.tuple #[.int .u64 ((L ^^^ (rd (num l) l.length m' (fS mk fa fb) * 2 ^ fb) : Nat) : Int), .agg #[.int .i64 (fa : Int), .int .i64 (fb : Int)], .int .i64 0]) ∧ Rd w' base p v l (m' + fS mk fa fb) ∧ Did w w' base p nul nul := by
  have i0 : ¬ (n : Int) = 0 := by omega
  obtain ⟨hfab, hmm, hmN⟩ := rF_bound hw hF
  obtain ⟨s, hs⟩ : ∃ s, fS mk fa fb = s := ⟨_, rfl⟩
  have hs64 := hide (show s ≤ 64 by rw [← hs]; unfold fS; split <;> omega)
  have SZ := hide (fun w => size_anyX (mk : Int) (fa : Int) (fb : Int) (s : Int) w (by omega) (by omega) (by rw [← hs]; unfold fS; by_cases h : mk = 0 <;> simp [h] <;> omega))
  replace hF := hide hF
  rw [hs] at hr ⊢
  obtain ⟨y, hy⟩ : ∃ y, rd (num l) l.length m' s = y := ⟨_, rfl⟩
  rw [hy]
  obtain ⟨X, hX⟩ : ∃ X, L ^^^ (y * 2 ^ fb) = X := ⟨_, rfl⟩
  rw [hX]
  replace hX := hide hX
  replace hy := hide hy
  replace hr := hide hr
  replace hmm := hide hmm
  replace hmN := hide hmN
  have E0 := GSX.start h ht hb0
  have hz := zero81
  have S0 := hide ((Kx.newG h 61 #[.int .i64 (n : Int), .int .u64 (L : Int), .int .i64 (a : Int), .int .i64 (b : Int)]).alloc (.cells #[.int .i64 0, .int .i64 0] 116))
  have E0' := E0.alloc (.cells #[.int .i64 (n : Int), .int .u64 (L : Int), .int .i64 (a : Int), .int .i64 (b : Int)] 61)
  have R0 := hide (Kx.newG_at E0'.rd (g := w.heap.size + 1) (by simp) 116 #[.int .i64 0, .int .i64 0])
  have E1 := hide (E0'.alloc (.cells #[.int .i64 0, .int .i64 0] 116))
  have WO := hide (windowOf_any (n : Int) (L : Int) (a : Int) (b : Int))
  clear E0 E0' h ht
  clear hn
  go_enter Tryz.func107, Tryz.ntmps107
  go_wp2_with fail
  refine (WO.out _).mono ?_
  rintro e w2 ⟨rfl, b2⟩
  have E2 := hide (E1.out.below b2)
  have R2 := hide (R0.out.below b2)
  have S2 := hide (S0.out.below b2)
  clear E1 R0 S0 b2
  have P := hide (rform_ok E2.out.rd E2.out.t E2.out.b0 hF.out)
  go_wp2_with fail
  refine P.out.mono ?_
  rintro e w3 ⟨rfl, W3, D3⟩
  have E3' := E2.out.get D3 W3
  have F3 := hide (Kx.newG E3'.rd 153 #[.int .i64 (mk : Int), .int .i64 (fa : Int), .int .i64 (fb : Int)])
  have R3' := R2.out.didN D3
  have S3' := S2.out.didN D3
  have hg3 : Hid (w.heap.size + 1 < w3.heap.size ∧ w3.heap.size ≠ w.heap.size) := by have := R3'.bx.lt; have := S3'.bx.lt; show _ ∧ _; omega
  have E3 := hide (E3'.alloc (.cells #[.int .i64 (mk : Int), .int .i64 (fa : Int), .int .i64 (fb : Int)] 153))
  have R3 := hide (R3'.alloc (.cells #[.int .i64 (mk : Int), .int .i64 (fa : Int), .int .i64 (fb : Int)] 153))
  have S3 := hide (S3'.alloc (.cells #[.int .i64 (mk : Int), .int .i64 (fa : Int), .int .i64 (fb : Int)] 153))
  clear P E2 R2 S2 W3 D3 E3' R3' S3'
  go_wp2_with fail
  refine (SZ.out _).mono ?_
  rintro e w4 ⟨rfl, b4⟩
  have E4 := hide (E3.out.below b4)
  have R4 := hide (R3.out.below b4)
  have S4 := hide (S3.out.below b4)
  have F4 := hide (F3.out.below b4)
  clear E3 R3 S3 F3 b4 SZ
  replace hy := hy.out
  have P := hide (getG E4.out.rd s (ni := (s : Int)) (xi := (y : Int)) (x := y) rfl hy rfl hs64.out hr.out)
  go_wp2_with fail
  refine P.out.mono ?_
  rintro e w5 ⟨rfl, W5, D5⟩
  have E5 := hide (E4.out.get D5 W5)
  have R5 := hide (R4.out.didN D5)
  have S5 := hide (S4.out.didN D5)
  have F5 := hide (F4.out.didN D5)
  clear P E4 R4 W5 D5 S4 F4
  have hxx := x_lt (mk := mk) (V := num l) (N := l.length) (m := m') hfab
  rw [hs, hy] at hxx
  have hsh : IntKind.u64.wrap ((y : Int) * 2 ^ fb) = ((y * 2 ^ fb : Nat) : Int) := by
    rw [IntKind.wrap_u64, show (y : Int) * 2 ^ fb = ((y * 2 ^ fb : Nat) : Int) by simp]
    omega
  have hmin : min fb 64 = fb := by omega
  have ifb : (fb : Int) ≤ 64 := by omega
  have FO := hide (fun w => formOf_any (y * 2 ^ fb) a b w hxx (by rcases hw with h | h <;> omega) (by rcases hw with h | h <;> omega))
  rw [hs, hy] at hD
  have hxr := u64_xor_nat L (y * 2 ^ fb) hL hxx
  rw [hX.out] at hxr
  obtain ⟨hD1, hD2, hD3⟩ := hD
  rw [hD1, hD2, hD3] at FO
  have hneq : ∀ w, (binOp .neq 153 (.agg #[.int .i64 (mk : Int), .int .i64 (fa : Int), .int .i64 (fb : Int)]) (.agg #[.int .i64 (mk : Int), .int .i64 (fa : Int), .int .i64 (fb : Int)])).run Tryz.prog w = .ok (.bool false) w := fun w => by rw [run_neq102]; simp
  replace hxx := hide hxx
  replace hy := hide hy
  replace hs := hide hs
  replace hfab := hide hfab
  clear hD1 hD2 hD3
  generalize y * 2 ^ fb = x at *
  have s0 := S5.out.bx.st4.c0
  have s1 := S5.out.bx.st4.c1
  have s2 := S5.out.bx.st4.c2
  have s3 := S5.out.bx.st4.c3
  have f0 := F5.out.bx.st3.c0
  have f1 := F5.out.bx.st3.c1
  have f2 := F5.out.bx.st3.c2
  go_wp2_with fail
  obtain ⟨gF, hgF⟩ : ∃ g, g = w3.heap.size := ⟨_, rfl⟩
  simp only [← hgF] at F5 hg3 ⊢
  clear hgF s0 s1 s2 s3 f0 f1 f2
  refine wp_region_noPanic ?_
  refine wp_region_held_drew (S := (fun w' => St4 w' w.heap.size (.int .i64 (n : Int)) (.int .u64 (L : Int)) (.int .i64 (a : Int)) (.int .i64 (b : Int)) ∧ St3 w' gF (.int .i64 (mk : Int)) (.int .i64 (fa : Int)) (.int .i64 (fb : Int)))) (by kernel_rfl) ⟨S5.out.drew.bx.st4, F5.out.drew.bx.st3⟩ (fun hH0 => ?_)
  have E6 := hide E5.out.drew
  have R6 := hide R5.out.drew
  have S6 := hide S5.out.drew
  have F6 := hide F5.out.drew
  clear E5 R5 S5 F5
  refine wpAnyH_take (i := 0) (oi := { dst := some 51, op := Op.move (Operand.tmp 11), type := 31, pos := "xor.go:181", after := #[], guard := none }) (v := ?_) rfl (by kernel_rfl) (by kernel_rfl) (by kernel_rfl) (fun _ _ _ h => h) (Or.inl ⟨by rfl, ?_⟩) hH0 ?_
  rotate_left
  · intro w' hw'
    obtain ⟨⟨s0, s1, s2, s3, -, -, -, -, -, -, -⟩, ⟨f0, f1, f2, -, -, -, -, -⟩⟩ := hw'
    go_simp
    try with_reducible rfl
  try simp only [Act.put, List.setIfInBounds_toArray, List.set_cons_zero, List.set_cons_succ]
  refine wpAnyH_take (i := 1) (oi := { dst := some 52, op := Op.load 61 (Operand.tmp 3), type := 61, pos := "xor.go:181", after := #[], guard := none }) (v := ?_) rfl (by kernel_rfl) (by kernel_rfl) (by kernel_rfl) (fun _ _ _ h => h) (Or.inl ⟨by rfl, ?_⟩) hH0 ?_
  rotate_left
  · intro w' hw'
    obtain ⟨⟨s0, s1, s2, s3, -, -, -, -, -, -, -⟩, ⟨f0, f1, f2, -, -, -, -, -⟩⟩ := hw'
    go_simp
    try with_reducible rfl
  try simp only [Act.put, List.setIfInBounds_toArray, List.set_cons_zero, List.set_cons_succ]
  refine wpAnyH_take (i := 4) (oi := { dst := some 55, op := Op.load 153 (Operand.tmp 9), type := 153, pos := "xor.go:181", after := #[], guard := none }) (v := ?_) rfl (by kernel_rfl) (by kernel_rfl) (by kernel_rfl) (fun _ _ _ h => h) (Or.inl ⟨by rfl, ?_⟩) hH0 ?_
  rotate_left
  · intro w' hw'
    obtain ⟨⟨s0, s1, s2, s3, -, -, -, -, -, -, -⟩, ⟨f0, f1, f2, -, -, -, -, -⟩⟩ := hw'
    go_simp
    try with_reducible rfl
  try simp only [Act.put, List.setIfInBounds_toArray, List.set_cons_zero, List.set_cons_succ]
  refine wpAnyH_ready (rs := [2]) (by kernel_rfl) (by simp) ?_
  refine AllReadyH.cons (o := { dst := some 53, op := Op.call { callee := Callee.value (Operand.func 92), args := #[Operand.tmp 52], argTypes := #[61] }, type := 116, pos := "xor.go:181", after := #[{ on := 1, ground := Ground.data }], guard := none }) rfl (fun K hK => ?_) AllReadyH.nil
  go_simp
  refine (WO.out _).mono ?_
  rintro e w7 ⟨rfl, b7⟩
  have E7 := hide (E6.out.below b7)
  have R7 := hide (R6.out.below b7)
  have S7 := hide (S6.out.below b7)
  have F7 := hide (F6.out.below b7)
  clear E6 R6 S6 F6
  refine hK.out _ _ ⟨S7.out.bx.st4, F7.out.bx.st3⟩ (fun hH1 => ?_)
  clear hK
  try simp only [Act.put, List.setIfInBounds_toArray, List.set_cons_zero, List.set_cons_succ]
  refine wpAnyH_ready (rs := [3]) (by kernel_rfl) (by simp) ?_
  refine AllReadyH.cons (o := { dst := some 54, op := Op.call { callee := Callee.value (Operand.func 94), args := #[Operand.tmp 51, Operand.tmp 53], argTypes := #[31, 116] }, type := 153, pos := "xor.go:181", after := #[{ on := 0, ground := Ground.data }, { on := 2, ground := Ground.data }, { on := 2, ground := Ground.chain }], guard := none }) rfl (fun K hK => ?_) AllReadyH.nil
  go_simp
  refine (FO.out _ E7.out.t).mono ?_
  rintro e w8 ⟨rfl, b8⟩
  have E8 := hide (E7.out.below b8)
  have R8 := hide (R7.out.below b8)
  have S8 := hide (S7.out.below b8)
  have F8 := hide (F7.out.below b8)
  clear E7 R7 S7 F7
  refine hK.out _ _ ⟨S8.out.bx.st4, F8.out.bx.st3⟩ (fun hH2 => ?_)
  clear hK
  try simp only [Act.put, List.setIfInBounds_toArray, List.set_cons_zero, List.set_cons_succ]
  refine wpAnyH_take (i := 5) (oi := { dst := some 56, op := Op.binOp BinOp.neq 153 (Operand.tmp 54) (Operand.tmp 55) 153, type := 4, pos := "xor.go:181", after := #[{ on := 3, ground := Ground.data }, { on := 4, ground := Ground.data }], guard := none }) (v := ?_) rfl (by kernel_rfl) (by kernel_rfl) (by kernel_rfl) (fun _ _ _ h => h) (Or.inl ⟨by rfl, ?_⟩) hH2 ?_
  rotate_left
  · intro w' hw'
    obtain ⟨⟨s0, s1, s2, s3, -, -, -, -, -, -, -⟩, ⟨f0, f1, f2, -, -, -, -, -⟩⟩ := hw'
    go_simp
    try with_reducible rfl
  try simp only [Act.put, List.setIfInBounds_toArray, List.set_cons_zero, List.set_cons_succ]
  refine wpAnyH_done (by kernel_rfl) ?_ _
  refine NoPanic.normal ?_
  have X2 := (R8.out.bx.set2 (.int .i64 (fa : Int)) (.int .i64 (fb : Int))).st2
  have FIN := hide (E8.out.but (but_set2 w8 (w.heap.size + 1) (.int .i64 (fa : Int)) (.int .i64 (fb : Int))) (by omega) R8.out.nf).drew
  obtain ⟨p0, p1, p2, p3, p4⟩ := R8.out.bx.st2
  have z0 := X2.c0
  have z1 := X2.c1
  clear X2
  have S9 := hide (S8.out.but (but_set2 w8 (w.heap.size + 1) (.int .i64 (fa : Int)) (.int .i64 (fb : Int))) (by omega)).drew
  have F9 := hide (F8.out.but (but_set2 w8 (w.heap.size + 1) (.int .i64 (fa : Int)) (.int .i64 (fb : Int))) (by have := hg3.out; omega)).drew
  clear hH0 hH1 hH2
  go_wp2_with fail
  refine wp_region_noPanic ?_
  refine wp_region_held_drew (S := (fun w' => St4 w' w.heap.size (.int .i64 (n : Int)) (.int .u64 (L : Int)) (.int .i64 (a : Int)) (.int .i64 (b : Int)) ∧ St3 w' gF (.int .i64 (mk : Int)) (.int .i64 (fa : Int)) (.int .i64 (fb : Int)))) (by kernel_rfl) ⟨S8.out.drew.bx.st4, F8.out.drew.bx.st3⟩ (fun hH0 => ?_)
  refine wpAnyH_take (i := 0) (oi := { dst := some 58, op := Op.fieldAddr 61 (Operand.tmp 3) 1, type := 0, pos := "xor.go:184", after := #[], guard := none }) (v := ?_) rfl (by kernel_rfl) (by kernel_rfl) (by kernel_rfl) (fun _ _ _ h => h) (Or.inl ⟨by rfl, ?_⟩) hH0 ?_
  rotate_left
  · intro w' hw'
    obtain ⟨⟨s0, s1, s2, s3, -, -, -, -, -, -, -⟩, ⟨f0, f1, f2, -, -, -, -, -⟩⟩ := hw'
    go_simp
    try with_reducible rfl
  try simp only [Act.put, List.setIfInBounds_toArray, List.set_cons_zero, List.set_cons_succ]
  refine wpAnyH_take (i := 1) (oi := { dst := some 59, op := Op.load 31 (Operand.tmp 58), type := 31, pos := "xor.go:184", after := #[{ on := 0, ground := Ground.data }], guard := none }) (v := ?_) rfl (by kernel_rfl) (by kernel_rfl) (by kernel_rfl) (fun _ _ _ h => h) (Or.inl ⟨by rfl, ?_⟩) hH0 ?_
  rotate_left
  · intro w' hw'
    obtain ⟨⟨s0, s1, s2, s3, -, -, -, -, -, -, -⟩, ⟨f0, f1, f2, -, -, -, -, -⟩⟩ := hw'
    go_simp
    try with_reducible rfl
  try simp only [Act.put, List.setIfInBounds_toArray, List.set_cons_zero, List.set_cons_succ]
  refine wpAnyH_take (i := 2) (oi := { dst := some 60, op := Op.move (Operand.tmp 11), type := 31, pos := "xor.go:184", after := #[], guard := none }) (v := ?_) rfl (by kernel_rfl) (by kernel_rfl) (by kernel_rfl) (fun _ _ _ h => h) (Or.inl ⟨by rfl, ?_⟩) hH0 ?_
  rotate_left
  · intro w' hw'
    obtain ⟨⟨s0, s1, s2, s3, -, -, -, -, -, -, -⟩, ⟨f0, f1, f2, -, -, -, -, -⟩⟩ := hw'
    go_simp
    try with_reducible rfl
  try simp only [Act.put, List.setIfInBounds_toArray, List.set_cons_zero, List.set_cons_succ]
  refine wpAnyH_take (i := 3) (oi := { dst := some 61, op := Op.binOp BinOp.xor 31 (Operand.tmp 59) (Operand.tmp 60) 31, type := 31, pos := "xor.go:184", after := #[{ on := 1, ground := Ground.data }, { on := 2, ground := Ground.data }], guard := none }) (v := ?_) rfl (by kernel_rfl) (by kernel_rfl) (by kernel_rfl) (fun _ _ _ h => h) (Or.inl ⟨by rfl, ?_⟩) hH0 ?_
  rotate_left
  · intro w' hw'
    obtain ⟨⟨s0, s1, s2, s3, -, -, -, -, -, -, -⟩, ⟨f0, f1, f2, -, -, -, -, -⟩⟩ := hw'
    go_simp
    try with_reducible rfl
  try simp only [Act.put, List.setIfInBounds_toArray, List.set_cons_zero, List.set_cons_succ]
  refine wpAnyH_take (i := 4) (oi := { dst := some 62, op := Op.fieldAddr 153 (Operand.tmp 9) 1, type := 0, pos := "xor.go:184", after := #[{ on := 6, ground := Ground.gcOnly Departure.lateStores }], guard := none }) (v := ?_) rfl (by kernel_rfl) (by kernel_rfl) (by kernel_rfl) (fun _ _ _ h => h) (Or.inl ⟨by rfl, ?_⟩) hH0 ?_
  rotate_left
  · intro w' hw'
    obtain ⟨⟨s0, s1, s2, s3, -, -, -, -, -, -, -⟩, ⟨f0, f1, f2, -, -, -, -, -⟩⟩ := hw'
    go_simp
    try with_reducible rfl
  try simp only [Act.put, List.setIfInBounds_toArray, List.set_cons_zero, List.set_cons_succ]
  refine wpAnyH_take (i := 5) (oi := { dst := some 63, op := Op.load 116 (Operand.tmp 62), type := 116, pos := "xor.go:184", after := #[{ on := 4, ground := Ground.data }, { on := 6, ground := Ground.gcOnly Departure.lateStores }], guard := none }) (v := ?_) rfl (by kernel_rfl) (by kernel_rfl) (by kernel_rfl) (fun _ _ _ h => h) (Or.inl ⟨by rfl, ?_⟩) hH0 ?_
  rotate_left
  · intro w' hw'
    obtain ⟨⟨s0, s1, s2, s3, -, -, -, -, -, -, -⟩, ⟨f0, f1, f2, -, -, -, -, -⟩⟩ := hw'
    go_simp
    try with_reducible rfl
  try simp only [Act.put, List.setIfInBounds_toArray, List.set_cons_zero, List.set_cons_succ]
  refine wpAnyH_take (i := 6) (oi := { dst := some 4, op := Op.assign (Operand.tmp 61), type := 31, pos := "xor.go:184", after := #[{ on := 3, ground := Ground.data }, { on := 0, ground := Ground.phase }, { on := 1, ground := Ground.phase }, { on := 2, ground := Ground.phase }, { on := 3, ground := Ground.phase }, { on := 4, ground := Ground.textOnly Departure.lateStores }, { on := 5, ground := Ground.textOnly Departure.lateStores }], guard := none }) (v := ?_) rfl (by kernel_rfl) (by kernel_rfl) (by kernel_rfl) (fun _ _ _ h => h) (Or.inl ⟨by rfl, ?_⟩) hH0 ?_
  rotate_left
  · intro w' hw'
    obtain ⟨⟨s0, s1, s2, s3, -, -, -, -, -, -, -⟩, ⟨f0, f1, f2, -, -, -, -, -⟩⟩ := hw'
    go_simp
    try with_reducible rfl
  try simp only [Act.put, List.setIfInBounds_toArray, List.set_cons_zero, List.set_cons_succ]
  refine wpAnyH_ready (rs := [7]) (by kernel_rfl) (by simp) ?_
  refine AllReadyH.cons (o := { dst := none, op := Op.store 116 (Operand.tmp 5) (Operand.tmp 63), type := 0, pos := "xor.go:184", after := #[{ on := 5, ground := Ground.data }, { on := 6, ground := Ground.chain }, { on := 0, ground := Ground.phase }, { on := 1, ground := Ground.phase }, { on := 2, ground := Ground.phase }, { on := 3, ground := Ground.phase }, { on := 4, ground := Ground.phase }, { on := 5, ground := Ground.phase }, { on := 6, ground := Ground.phase }], guard := none }) rfl (fun K hK => ?_) AllReadyH.nil
  go_simp
  refine hK.out _ _ ⟨S9.out.bx.st4, F9.out.bx.st3⟩ (fun hH1 => ?_)
  clear hK
  try simp only [Act.put, List.setIfInBounds_toArray, List.set_cons_zero, List.set_cons_succ]
  refine wpAnyH_take (i := 8) (oi := { dst := some 6, op := Op.assign (Operand.const (Value.int IntKind.i64 0)), type := 25, pos := "xor.go:184", after := #[{ on := 7, ground := Ground.chain }, { on := 0, ground := Ground.phase }, { on := 1, ground := Ground.phase }, { on := 2, ground := Ground.phase }, { on := 3, ground := Ground.phase }, { on := 4, ground := Ground.phase }, { on := 5, ground := Ground.phase }, { on := 6, ground := Ground.phase }, { on := 7, ground := Ground.phase }], guard := none }) (v := ?_) rfl (by kernel_rfl) (by kernel_rfl) (by kernel_rfl) (fun _ _ _ h => h) (Or.inl ⟨by rfl, ?_⟩) hH1 ?_
  rotate_left
  · intro w' hw'
    obtain ⟨⟨s0, s1, s2, s3, -, -, -, -, -, -, -⟩, ⟨f0, f1, f2, -, -, -, -, -⟩⟩ := hw'
    go_simp
    try with_reducible rfl
  try simp only [Act.put, List.setIfInBounds_toArray, List.set_cons_zero, List.set_cons_succ]
  refine wpAnyH_done (by kernel_rfl) ?_ _
  refine NoPanic.normal ?_
  go_wp2_with fail
  refine bodyPost_ret (v := .tuple #[.int .u64 (X : Int), .agg #[.int .i64 (fa : Int), .int .i64 (fb : Int)], .int .i64 0]) (by simp [results, Tryz.f107, go_sem, z0, z1]) rfl ?_
  exact ⟨rfl, FIN.out.rd, FIN.out.d⟩
set_option linter.unusedSimpArgs false

theorem readX_ok {w : World} {base p m : Nat} {v : Value} {l : List Int} (h : Rd w base p v l m) (ht : TabX w) (hb0 : 2 < base) {n L a b V k a' b' : Nat} (hw : OkW a b) (hL : L < 18446744073709551616) (hg : gX n L a b (num l) l.length m = some (V, k, a', b')) :
    Calls Tryz.prog 107 #[.pointer (some ⟨p, 0, none⟩), .agg #[.int .i64 (n : Int), .int .u64 (L : Int), .int .i64 (a : Int), .int .i64 (b : Int)]] w fun e w' => e = .returned (.tuple #[.int .u64 (V : Int), .agg #[.int .i64 (a' : Int), .int .i64 (b' : Int)], .int .i64 0]) ∧ Rd w' base p v l (m + k) ∧ Did w w' base p nul nul := by
  unfold gX at hg
  by_cases hn : n = 0
  · rw [if_pos hn] at hg
    subst hn
    split at hg
    · cases hg
    · cases hg
      exact read0_ok h ht hb0 (by omega) rfl
  · rw [if_neg hn, rX_eq hw] at hg
    cases hF : rF a b (num l) l.length m with
    | none => rw [hF] at hg; cases hg
    | some q =>
      obtain ⟨mk, fa, fb, m'⟩ := q
      rw [hF] at hg
      simp only [Option.bind_some] at hg
      obtain ⟨hfab, hmm, hmN⟩ := rF_bound hw hF
      unfold rT at hg
      split at hg
      · cases hg
      · split at hg
        · rename_i h1 h2
          cases hg
          have := read1_ok h ht hb0 hn hw hF hL (by omega) h2
          rw [show m + (m' + fS mk fa fb - m) = m' + fS mk fa fb by omega]
          exact this
        · cases hg
theorem readX_no {w : World} {base p m : Nat} {v : Value} {l : List Int} (h : Rd w base p v l m) (ht : TabX w) (hb0 : 2 < base) {n L a b : Nat} (hw : OkW a b) (hg : gX n L a b (num l) l.length m = none) :
    Calls Tryz.prog 107 #[.pointer (some ⟨p, 0, none⟩), .agg #[.int .i64 (n : Int), .int .u64 (L : Int), .int .i64 (a : Int), .int .i64 (b : Int)]] w fun e w' => ∃ x y : Int, e = .returned (.tuple #[.int .u64 0, .agg #[.int .i64 x, .int .i64 y], .int .i64 50]) ∧ Did w w' base p nul nul := by
  unfold gX at hg
  by_cases hn : n = 0
  · rw [if_pos hn] at hg
    subst hn
    split at hg
    · exact read0_no h ht hb0 (by assumption)
    · cases hg
  · rw [if_neg hn, rX_eq hw] at hg
    cases hF : rF a b (num l) l.length m with
    | none => exact read1_f h ht hb0 hn hF
    | some q =>
      obtain ⟨mk, fa, fb, m'⟩ := q
      rw [hF] at hg
      simp only [Option.bind_some] at hg
      unfold rT at hg
      split at hg
      · exact read1_b h ht hb0 hn hw hF (by assumption)
      · split at hg
        · cases hg
        · exact read1_n h ht hb0 hn hw hF (by omega) (by assumption)

theorem Rd.bx {w : World} {base p m : Nat} {v : Value} {l : List Int} (h : Rd w base p v l m) : Bx w p 135 #[v, .int .i64 (m : Int), .bool true] := h.1.heap
/-- The copy has read. -/
theorem did_copy {w0 w w' : World} {base p c : Nat} (d : Did w0 w base p nul nul) (e : Did w w' base c nul nul) (hc : w0.heap.size ≤ c) : Did w0 w' base p nul nul :=
  ⟨d.bel.trans e.bel, d.but.trans e.but (fun i hi h => by have := fp_nul h; omega), fun i _ h => h⟩
theorem GSX.copy {w0 w w' : World} {base p c m : Nat} {v : Value} {l : List Int} (h : GSX w0 w base p v l m) (e : Did w w' base c nul nul) (hc : w0.heap.size ≤ c) (hnf : ¬ fp p v c) : GSX w0 w' base p v l m :=
  ⟨⟨h.rd.1.kept e.but (fun k hk => by rw [fp_nul hk]; exact hnf), h.rd.2⟩, did_copy h.d e hc, h.t.kept e.bel h.b0, h.b0, h.bw⟩
theorem Kx.copy {w w' : World} {base p c g : Nat} {v : Value} {t : TypeId} {xs : Array Value} (h : Kx w p v g t xs) (e : Did w w' base c nul nul) (hg : g ≠ c) : Kx w' p v g t xs :=
  ⟨h.bx.did e (fun hf => hg (fp_nul hf)), h.nf⟩
/-- The reader is set where the copy stands. -/
theorem GSX.set {w0 w : World} {base p m : Nat} {v : Value} {l : List Int} (h : GSX w0 w base p v l m) (m' : Nat) (hm : m' ≤ 8 * l.length) : GSX w0 (((w.setCell ⟨p, 0, none⟩ v).setCell ⟨p, 1, none⟩ (.int .i64 (m' : Int))).setCell ⟨p, 2, none⟩ (.bool true)) base p v l m' := by
  have hb := but_set3 w p v (.int .i64 (m' : Int)) (.bool true)
  have hlt := h.rd.lt
  have hbel : Below base w (((w.setCell ⟨p, 0, none⟩ v).setCell ⟨p, 1, none⟩ (.int .i64 (m' : Int))).setCell ⟨p, 2, none⟩ (.bool true)) := hb.below (by omega) (fun i hi => by omega)
  refine ⟨⟨⟨h.rd.bx.set3 v (.int .i64 (m' : Int)) (.bool true), h.rd.1.ge, owns_of_block h.rd.1.own (fun k hk => hb.block k (h.rd.1.own.lt k hk).2 (fun e => h.rd.1.ne (by rw [← e]; exact hk))), h.rd.1.ne⟩, h.rd.2.1, h.rd.2.2.1, hm⟩, ⟨h.d.bel.trans hbel, h.d.but.trans hb (fun i hi e => .inl e), h.d.own⟩, h.t.kept hbel h.b0, h.b0, h.bw⟩
theorem Kx.set {w : World} {p g : Nat} {v : Value} {t : TypeId} {xs : Array Value} (h : Kx w p v g t xs) (x y z : Value) : Kx (((w.setCell ⟨p, 0, none⟩ x).setCell ⟨p, 1, none⟩ y).setCell ⟨p, 2, none⟩ z) p v g t xs :=
  h.but (but_set3 w p x y z) (fun e => h.nf (.inl e))
set_option maxRecDepth 100000 in
set_option maxHeartbeats 4000000 in
theorem getX_bad {w : World} {base p m : Nat} {v : Value} {l : List Int} (h : Rd w base p v l m) (ht : TabX w) (hb0 : 2 < base) {n L a b : Int} (hno : okSIX n a b = false) (ha : a ≤ 9223372036854775807) (hb : b ≤ 9223372036854775807) :
    Calls Tryz.prog 99 #[.pointer (some ⟨p, 0, none⟩), .agg #[.int .i64 n, .int .u64 L, .int .i64 a, .int .i64 b]] w fun e w' => e = .returned (.tuple #[.agg #[.int .i64 0, .int .u64 0, .int .i64 0, .int .i64 0], .int .u64 0, .int .i64 2]) ∧ Did w w' base p nul nul := by
  have MB := hide (fun w => mayBe_anyX n L a b w ha hb)
  rw [hno] at MB
  have E0 := GSX.start h ht hb0
  have hz := zero24
  have S0 := hide ((Kx.newG h 61 #[.int .i64 n, .int .u64 L, .int .i64 a, .int .i64 b]).alloc (.cells #[.int .i64 0, .int .u64 0, .int .i64 0, .int .i64 0] 61))
  have E0' := E0.alloc (.cells #[.int .i64 n, .int .u64 L, .int .i64 a, .int .i64 b] 61)
  have R0 := hide (Kx.newG_at E0'.rd (g := w.heap.size + 1) (by simp) 61 #[.int .i64 0, .int .u64 0, .int .i64 0, .int .i64 0])
  have E1 := hide (E0'.alloc (.cells #[.int .i64 0, .int .u64 0, .int .i64 0, .int .i64 0] 61))
  clear E0 E0' h ht
  have P := hide (getG E1.out.rd 0 (ni := 0) (xi := 0) (x := 0) rfl (rd_zero _ _ _) rfl (by decide) (by have := E1.out.rd.2.2.2; omega))
  go_enter Tryz.func99, Tryz.ntmps99
  go_wp2_with fail
  refine P.out.mono ?_
  rintro e w2 ⟨rfl, W2, D2⟩
  have E2 := hide (E1.out.get D2 W2)
  have R2 := hide (R0.out.didN D2)
  have S2 := hide (S0.out.didN D2)
  clear P E1 R0 S0 W2 D2
  have s0 := S2.out.bx.st4.c0
  have s1 := S2.out.bx.st4.c1
  have s2 := S2.out.bx.st4.c2
  have s3 := S2.out.bx.st4.c3
  go_wp2_with fail
  refine (MB.out _).mono ?_
  rintro e w6 ⟨rfl, b3⟩
  have E6 := hide (E2.out.below b3)
  have R6 := hide (R2.out.below b3)
  clear E2 R2 S2 b3 s0 s1 s2 s3
  have X2 := (R6.out.bx.set4 (.int .i64 0) (.int .u64 0) (.int .i64 0) (.int .i64 0)).st4
  have FIN := hide (E6.out.but (but_set4 w6 (w.heap.size + 1) (.int .i64 0) (.int .u64 0) (.int .i64 0) (.int .i64 0)) (by omega) R6.out.nf)
  obtain ⟨p0, p1, p2, p3, p4, p5, p6, p7, p8, p9, p10⟩ := R6.out.bx.st4
  have z0 := X2.c0
  have z1 := X2.c1
  have z2 := X2.c2
  have z3 := X2.c3
  clear X2
  go_wp2_with fail
  refine bodyPost_ret (v := .tuple #[.agg #[.int .i64 0, .int .u64 0, .int .i64 0, .int .i64 0], .int .u64 0, .int .i64 2]) (by simp [results, Tryz.f99, go_sem, z0, z1, z2, z3]) rfl ?_
  exact ⟨rfl, FIN.out.d⟩
set_option maxRecDepth 100000 in
set_option maxHeartbeats 4000000 in
theorem getX_no {w : World} {base p m : Nat} {v : Value} {l : List Int} (h : Rd w base p v l m) (ht : TabX w) (hb0 : 2 < base) {n L a b : Nat} (hs : OkSX n a b) (hg : gX n L a b (num l) l.length m = none) :
    Calls Tryz.prog 99 #[.pointer (some ⟨p, 0, none⟩), .agg #[.int .i64 (n : Int), .int .u64 (L : Int), .int .i64 (a : Int), .int .i64 (b : Int)]] w fun e w' => e = .returned (.tuple #[.agg #[.int .i64 0, .int .u64 0, .int .i64 0, .int .i64 0], .int .u64 0, .int .i64 50]) ∧ Did w w' base p nul nul := by
  obtain ⟨av, cv, rfl⟩ := h.1.slice
  have MB := hide (fun w => mayBe_anyX (n : Int) (L : Int) (a : Int) (b : Int) w (by rcases hs.w with h | h <;> omega) (by rcases hs.w with h | h <;> omega))
  rw [okSI_ofX hs] at MB
  have RX := hide (fun c wx (h : Rd wx base c (.slice av l.length cv) l m) (ht : TabX wx) => readX_no (L := L) h ht hb0 hs.w hg)
  have E0 := GSX.start h ht hb0
  have hz := zero24
  have S0 := hide ((Kx.newG h 61 #[.int .i64 (n : Int), .int .u64 (L : Int), .int .i64 (a : Int), .int .i64 (b : Int)]).alloc (.cells #[.int .i64 0, .int .u64 0, .int .i64 0, .int .i64 0] 61))
  have E0' := E0.alloc (.cells #[.int .i64 (n : Int), .int .u64 (L : Int), .int .i64 (a : Int), .int .i64 (b : Int)] 61)
  have R0 := hide (Kx.newG_at E0'.rd (g := w.heap.size + 1) (by simp) 61 #[.int .i64 0, .int .u64 0, .int .i64 0, .int .i64 0])
  have E1 := hide (E0'.alloc (.cells #[.int .i64 0, .int .u64 0, .int .i64 0, .int .i64 0] 61))
  clear E0 E0' h ht
  clear hs hg
  have P := hide (getG E1.out.rd 0 (ni := 0) (xi := 0) (x := 0) rfl (rd_zero _ _ _) rfl (by decide) (by have := E1.out.rd.2.2.2; omega))
  go_enter Tryz.func99, Tryz.ntmps99
  go_wp2_with fail
  refine P.out.mono ?_
  rintro e w2 ⟨rfl, W2, D2⟩
  have E2 := hide (E1.out.get D2 W2)
  have R2 := hide (R0.out.didN D2)
  have S2 := hide (S0.out.didN D2)
  clear P E1 R0 S0 W2 D2
  have s0 := S2.out.bx.st4.c0
  have s1 := S2.out.bx.st4.c1
  have s2 := S2.out.bx.st4.c2
  have s3 := S2.out.bx.st4.c3
  go_wp2_with fail
  refine (MB.out _).mono ?_
  rintro e w3 ⟨rfl, b3⟩
  have E3 := hide (E2.out.below b3)
  have R3 := hide (R2.out.below b3)
  have S3 := hide (S2.out.below b3)
  clear E2 R2 S2 b3 s0 s1 s2 s3
  have C4 := hide E3.out.rd.copy
  have E4 := hide (E3.out.alloc (.cells #[.slice av l.length cv, .int .i64 ((m + 0 : Nat) : Int), .bool true] 135))
  have R4 := hide (R3.out.alloc (.cells #[.slice av l.length cv, .int .i64 ((m + 0 : Nat) : Int), .bool true] 135))
  have S4 := hide (S3.out.alloc (.cells #[.slice av l.length cv, .int .i64 ((m + 0 : Nat) : Int), .bool true] 135))
  have hc4 : Hid (w.heap.size + 1 < w3.heap.size ∧ w3.heap.size ≠ p) := by have := R3.out.bx.lt; have := E3.out.rd.lt; show _ ∧ _; omega
  have hnf4 := hide (E3.out.rd.not (Nat.le_refl _))
  have c0 := E3.out.rd.bx.st3.c0
  have c1 := E3.out.rd.bx.st3.c1
  have c2 := E3.out.rd.bx.st3.c2
  clear E3 R3 S3
  simp only [Nat.add_zero] at C4 E4 R4 S4 c1
  have s0 := S4.out.bx.st4.c0
  have s1 := S4.out.bx.st4.c1
  have s2 := S4.out.bx.st4.c2
  have s3 := S4.out.bx.st4.c3
  have P := hide (RX.out _ _ C4.out E4.out.t)
  go_wp2_with fail
  refine P.out.mono ?_
  rintro e w5 ⟨x, y, rfl, D5⟩
  have DD := did_copy E4.out.d D5 (by have := hc4.out; omega)
  have R5 := R4.out.copy D5 (by have := hc4.out; omega)
  have R6 := hide (R5.alloc (.cells #[.int .i64 x, .int .i64 y] 116))
  have bw := hide E4.out.bw
  have hbb := hide (show base ≤ w5.heap.size by have := E4.out.rd.lt; have := D5.bel.size; omega)
  have bt := but_set4 (w5.alloc (.cells #[.int .i64 x, .int .i64 y] 116)) (w.heap.size + 1) (.int .i64 0) (.int .u64 0) (.int .i64 0) (.int .i64 0)
  have D6 := DD.post ((Below.refl _ w5).alloc (Nat.le_refl _) (.cells #[.int .i64 x, .int .i64 y] 116)) hbb.out
  have hbel : Below base (w5.alloc (.cells #[.int .i64 x, .int .i64 y] 116)) _ := bt.below (by simp; have := hbb.out; omega) (fun i hi => by have := bw.out; omega)
  have D7 : Hid (Did w _ base p nul nul) := ⟨D6.bel.trans hbel, D6.but.trans bt (fun i hi e => by omega), D6.own⟩
  clear P E4 R4 S4 C4 D5 DD R5 bt D6 hbel s0 s1 s2 s3 c0 c1 c2
  have X2 := (R6.out.bx.set4 (.int .i64 0) (.int .u64 0) (.int .i64 0) (.int .i64 0)).st4

  obtain ⟨p0, p1, p2, p3, p4, p5, p6, p7, p8, p9, p10⟩ := R6.out.bx.st4
  have z0 := X2.c0
  have z1 := X2.c1
  have z2 := X2.c2
  have z3 := X2.c3
  clear X2
  go_wp2_with fail
  refine bodyPost_ret (v := .tuple #[.agg #[.int .i64 0, .int .u64 0, .int .i64 0, .int .i64 0], .int .u64 0, .int .i64 50]) (by simp [results, Tryz.f99, go_sem, z0, z1, z2, z3]) rfl ?_
  exact ⟨rfl, D7.out⟩
set_option maxRecDepth 100000 in
set_option maxHeartbeats 4000000 in
theorem getX_ok {w : World} {base p m : Nat} {v : Value} {l : List Int} (h : Rd w base p v l m) (ht : TabX w) (hb0 : 2 < base) {n L a b V k a' b' : Nat} (hs : OkSX n a b) (hL : L < 18446744073709551616) (hg : gX n L a b (num l) l.length m = some (V, k, a', b')) :
    Calls Tryz.prog 99 #[.pointer (some ⟨p, 0, none⟩), .agg #[.int .i64 (n : Int), .int .u64 (L : Int), .int .i64 (a : Int), .int .i64 (b : Int)]] w fun e w' => e = .returned (.tuple #[.agg #[.int .i64 ((n + 1 : Nat) : Int), .int .u64 (V : Int), .int .i64 (a' : Int), .int .i64 (b' : Int)], .int .u64 (V : Int), .int .i64 0]) ∧ Rd w' base p v l (m + k) ∧ Did w w' base p nul nul := by
  obtain ⟨av, cv, rfl⟩ := h.1.slice
  have MB := hide (fun w => mayBe_anyX (n : Int) (L : Int) (a : Int) (b : Int) w (by rcases hs.w with h | h <;> omega) (by rcases hs.w with h | h <;> omega))
  rw [okSI_ofX hs] at MB
  have RX := hide (fun c wx (h : Rd wx base c (.slice av l.length cv) l m) (ht : TabX wx) => readX_ok h ht hb0 hs.w hL hg)
  have BE := hide (fun w => behind_anyX (n : Int) (L : Int) (a : Int) (b : Int) (V : Int) (a' : Int) (b' : Int) ((n + 1 : Nat) : Int) w (by omega) (by have := hs.n; omega) (by omega))
  generalize n + 1 = n1 at *
  have E0 := GSX.start h ht hb0
  have hz := zero24
  have S0 := hide ((Kx.newG h 61 #[.int .i64 (n : Int), .int .u64 (L : Int), .int .i64 (a : Int), .int .i64 (b : Int)]).alloc (.cells #[.int .i64 0, .int .u64 0, .int .i64 0, .int .i64 0] 61))
  have E0' := E0.alloc (.cells #[.int .i64 (n : Int), .int .u64 (L : Int), .int .i64 (a : Int), .int .i64 (b : Int)] 61)
  have R0 := hide (Kx.newG_at E0'.rd (g := w.heap.size + 1) (by simp) 61 #[.int .i64 0, .int .u64 0, .int .i64 0, .int .i64 0])
  have E1 := hide (E0'.alloc (.cells #[.int .i64 0, .int .u64 0, .int .i64 0, .int .i64 0] 61))
  clear E0 E0' h ht
  clear hs hg hL
  have P := hide (getG E1.out.rd 0 (ni := 0) (xi := 0) (x := 0) rfl (rd_zero _ _ _) rfl (by decide) (by have := E1.out.rd.2.2.2; omega))
  go_enter Tryz.func99, Tryz.ntmps99
  go_wp2_with fail
  refine P.out.mono ?_
  rintro e w2 ⟨rfl, W2, D2⟩
  have E2 := hide (E1.out.get D2 W2)
  have R2 := hide (R0.out.didN D2)
  have S2 := hide (S0.out.didN D2)
  clear P E1 R0 S0 W2 D2
  have s0 := S2.out.bx.st4.c0
  have s1 := S2.out.bx.st4.c1
  have s2 := S2.out.bx.st4.c2
  have s3 := S2.out.bx.st4.c3
  go_wp2_with fail
  refine (MB.out _).mono ?_
  rintro e w3 ⟨rfl, b3⟩
  have E3 := hide (E2.out.below b3)
  have R3 := hide (R2.out.below b3)
  have S3 := hide (S2.out.below b3)
  clear E2 R2 S2 b3 s0 s1 s2 s3
  have C4 := hide E3.out.rd.copy
  have E4 := hide (E3.out.alloc (.cells #[.slice av l.length cv, .int .i64 ((m + 0 : Nat) : Int), .bool true] 135))
  have R4 := hide (R3.out.alloc (.cells #[.slice av l.length cv, .int .i64 ((m + 0 : Nat) : Int), .bool true] 135))
  have S4 := hide (S3.out.alloc (.cells #[.slice av l.length cv, .int .i64 ((m + 0 : Nat) : Int), .bool true] 135))
  have hc4 : Hid (w.heap.size + 1 < w3.heap.size ∧ w3.heap.size ≠ p) := by have := R3.out.bx.lt; have := E3.out.rd.lt; show _ ∧ _; omega
  have hnf4 := hide (E3.out.rd.not (Nat.le_refl _))
  have c0 := E3.out.rd.bx.st3.c0
  have c1 := E3.out.rd.bx.st3.c1
  have c2 := E3.out.rd.bx.st3.c2
  clear E3 R3 S3
  simp only [Nat.add_zero] at C4 E4 R4 S4 c1
  have s0 := S4.out.bx.st4.c0
  have s1 := S4.out.bx.st4.c1
  have s2 := S4.out.bx.st4.c2
  have s3 := S4.out.bx.st4.c3
  have P := hide (RX.out _ _ C4.out E4.out.t)
  go_wp2_with fail
  refine P.out.mono ?_
  rintro e w5 ⟨rfl, C5', D5⟩
  have E5 := hide ((E4.out.copy D5 (by have := hc4.out; omega) hnf4.out).alloc (.cells #[.int .i64 (a' : Int), .int .i64 (b' : Int)] 116))
  have R5 := hide ((R4.out.copy D5 (by have := hc4.out; omega)).alloc (.cells #[.int .i64 (a' : Int), .int .i64 (b' : Int)] 116))
  have S5 := hide ((S4.out.copy D5 (by have := hc4.out; omega)).alloc (.cells #[.int .i64 (a' : Int), .int .i64 (b' : Int)] 116))
  have W5 := hide (Kx.newG (E4.out.copy D5 (by have := hc4.out; omega) hnf4.out).rd 116 #[.int .i64 (a' : Int), .int .i64 (b' : Int)])
  have C5 := hide (C5'.bx.alloc (.cells #[.int .i64 (a' : Int), .int .i64 (b' : Int)] 116))
  have hk8 := hide C5'.2.2.2
  clear P E4 R4 S4 C4 C5' D5 s0 s1 s2 s3 c0 c1 c2
  obtain ⟨m', hm'⟩ : ∃ m', m' = m + k := ⟨_, rfl⟩
  rw [← hm'] at C5 hk8
  have E6 := hide (E5.out.set m' hk8.out)
  have R6 := hide (R5.out.set (.slice av l.length cv) (.int .i64 (m' : Int)) (.bool true))
  have S6 := hide (S5.out.set (.slice av l.length cv) (.int .i64 (m' : Int)) (.bool true))
  have W6 := hide (W5.out.set (.slice av l.length cv) (.int .i64 (m' : Int)) (.bool true))
  obtain ⟨c0, c1, c2, -, -, -, -, -⟩ := C5.out.st3
  obtain ⟨d0, d1, d2, d3, d4, d5, d6, d7⟩ := E5.out.rd.bx.st3
  have s0 := S6.out.bx.st4.c0
  have s1 := S6.out.bx.st4.c1
  have s2 := S6.out.bx.st4.c2
  have s3 := S6.out.bx.st4.c3
  have y0 := W6.out.bx.st2.c0
  have y1 := W6.out.bx.st2.c1
  replace hm' := hide hm'
  go_wp2_with fail
  refine (BE.out _).mono ?_
  rintro e w7 ⟨rfl, b7⟩
  have E7 := hide (E6.out.below b7)
  have R7 := hide (R6.out.below b7)
  clear E5 E6 R5 R6 S5 S6 W5 W6 C5 b7 c0 c1 c2 d0 d1 d2 d3 d4 d5 d6 d7 s0 s1 s2 s3 y0 y1
  have X2 := (R7.out.bx.set4 (.int .i64 (n1 : Int)) (.int .u64 (V : Int)) (.int .i64 (a' : Int)) (.int .i64 (b' : Int))).st4
  have FIN := hide (E7.out.but (but_set4 w7 (w.heap.size + 1) (.int .i64 (n1 : Int)) (.int .u64 (V : Int)) (.int .i64 (a' : Int)) (.int .i64 (b' : Int))) (by omega) R7.out.nf)
  rw [hm'.out] at FIN
  obtain ⟨p0, p1, p2, p3, p4, p5, p6, p7, p8, p9, p10⟩ := R7.out.bx.st4
  have z0 := X2.c0
  have z1 := X2.c1
  have z2 := X2.c2
  have z3 := X2.c3
  clear X2
  go_wp2_with fail
  refine bodyPost_ret (v := .tuple #[.agg #[.int .i64 (n1 : Int), .int .u64 (V : Int), .int .i64 (a' : Int), .int .i64 (b' : Int)], .int .u64 (V : Int), .int .i64 0]) (by simp [results, Tryz.f99, go_sem, z0, z1, z2, z3]) rfl ?_
  exact ⟨rfl, FIN.out.rd, FIN.out.d⟩

end Go.Proofs.YtmjjedbdedemcaaGreatDoor
