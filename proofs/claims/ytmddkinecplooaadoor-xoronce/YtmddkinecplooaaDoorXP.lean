/-
  read.
-/
import Derived.Test.YtmddkinecplooaaDoorXO
namespace Go.Proofs.YtmddkinecplooaaDoor
open Go.RowKit
set_option linter.unusedVariables false
set_option linter.unusedSimpArgs false

theorem rF_bound {a b V N m mk fa fb m' : Nat} (hw : OkW a b) (h : rF a b V N m = some (mk, fa, fb, m')) : fa + fb ≤ 64 ∧ m ≤ m' ∧ m' ≤ 8 * N := by
  have hab : a + b ≤ 64 := by rcases hw with h | h <;> omega
  unfold rF at h
  split at h
  · cases h
  split at h
  · cases h; omega
  split at h
  · cases h
  split at h
  · cases h; omega
  split at h
  · cases h
  split at h
  · cases h
  cases h
  omega
theorem x_lt {mk fa fb V N m : Nat} (h : fa + fb ≤ 64) : rd V N m (fS mk fa fb) * 2 ^ fb < 18446744073709551616 := by
  have h1 := rd_lt V N m (fS mk fa fb)
  unfold fS at *
  by_cases h0 : mk = 0
  · rw [if_pos h0] at *
    simp at h1
    rw [h1]; simp
  · rw [if_neg h0] at *
    have h2 := shl_lt h h1
    have h3 := p64 (a := fa)
    omega

set_option maxRecDepth 100000 in
set_option maxHeartbeats 4000000 in
theorem read0_ok {w : World} {base p m : Nat} {v : Value} {l : List Int} (h : Rd w base p v l m) (ht : Tab w) (hb0 : 0 < base) {L a b V : Nat} (hr : m + 64 ≤ 8 * l.length) (hV : rd (num l) l.length m 64 = V) :
    Calls Tryd.prog 46 #[.pointer (some ⟨p, 0, none⟩), .agg #[.int .i64 0, .int .u64 (L : Int), .int .i64 (a : Int), .int .i64 (b : Int)]] w fun e w' => e = .returned (.tuple #[.int .u64 (V : Int), .agg #[.int .i64 (a : Int), .int .i64 (b : Int)], .int .i64 0]) ∧ Rd w' base p v l (m + 64) ∧ Did w w' base p nul nul := by
  replace hr := hide hr
  replace hV := hide hV
  have E0 := GS.start h ht hb0
  have hz := zero81
  have S0 := hide ((Kx.newG h 24 #[.int .i64 0, .int .u64 (L : Int), .int .i64 (a : Int), .int .i64 (b : Int)]).alloc (.cells #[.int .i64 0, .int .i64 0] 81))
  have E0' := E0.alloc (.cells #[.int .i64 0, .int .u64 (L : Int), .int .i64 (a : Int), .int .i64 (b : Int)] 24)
  have R0 := hide (Kx.newG_at E0'.rd (g := w.heap.size + 1) (by simp) 81 #[.int .i64 0, .int .i64 0])
  have E1 := hide (E0'.alloc (.cells #[.int .i64 0, .int .i64 0] 81))
  have WO := hide (windowOf_any 0 (L : Int) (a : Int) (b : Int))
  clear E0 E0' h ht
  go_enter Tryd.func46, Tryd.ntmps46
  have P := hide (getG E1.out.rd 64 (ni := 64) (xi := (V : Int)) (x := V) rfl hV.out rfl (by decide) hr.out)
  go_wp2_with fail
  refine P.out.mono ?_
  rintro e w2 ⟨rfl, W2, D2⟩
  have E2 := hide (E1.out.get D2 W2)
  have R2 := hide (R0.out.didN D2)
  have S2 := hide (S0.out.didN D2)
  clear P E1 R0 W2 D2 S0
  have s0 := S2.out.bx.st4.c0
  have s1 := S2.out.bx.st4.c1
  have s2 := S2.out.bx.st4.c2
  have s3 := S2.out.bx.st4.c3
  go_wp2_with fail
  refine (WO.out _).mono ?_
  rintro e w6 ⟨rfl, b6⟩
  have E6 := hide (E2.out.below b6)
  have R6 := hide (R2.out.below b6)
  clear E2 R2 S2 b6 s0 s1 s2 s3
  have X2 := (R6.out.bx.set2 (.int .i64 (a : Int)) (.int .i64 (b : Int))).st2
  have FIN := hide (E6.out.but (but_set2 w6 (w.heap.size + 1) (.int .i64 (a : Int)) (.int .i64 (b : Int))) (by omega) R6.out.nf)
  obtain ⟨p0, p1, p2, p3, p4⟩ := R6.out.bx.st2
  have z0 := X2.c0
  have z1 := X2.c1
  clear X2
  go_wp2_with fail
  refine bodyPost_ret (v := .tuple #[.int .u64 (V : Int), .agg #[.int .i64 (a : Int), .int .i64 (b : Int)], .int .i64 0]) (by simp [results, Tryd.f46, go_sem, z0, z1]) rfl ?_
  exact ⟨rfl, FIN.out.rd, FIN.out.d⟩
set_option maxRecDepth 100000 in
set_option maxHeartbeats 4000000 in
theorem read0_no {w : World} {base p m : Nat} {v : Value} {l : List Int} (h : Rd w base p v l m) (ht : Tab w) (hb0 : 0 < base) {L a b : Nat} (hr : 8 * l.length < m + 64) :
    Calls Tryd.prog 46 #[.pointer (some ⟨p, 0, none⟩), .agg #[.int .i64 0, .int .u64 (L : Int), .int .i64 (a : Int), .int .i64 (b : Int)]] w fun e w' => ∃ x y : Int, e = .returned (.tuple #[.int .u64 0, .agg #[.int .i64 x, .int .i64 y], .int .i64 50]) ∧ Did w w' base p nul nul := by
  replace hr := hide hr
  have E0 := GS.start h ht hb0
  have hz := zero81
  have S0 := hide ((Kx.newG h 24 #[.int .i64 0, .int .u64 (L : Int), .int .i64 (a : Int), .int .i64 (b : Int)]).alloc (.cells #[.int .i64 0, .int .i64 0] 81))
  have E0' := E0.alloc (.cells #[.int .i64 0, .int .u64 (L : Int), .int .i64 (a : Int), .int .i64 (b : Int)] 24)
  have R0 := hide (Kx.newG_at E0'.rd (g := w.heap.size + 1) (by simp) 81 #[.int .i64 0, .int .i64 0])
  have E1 := hide (E0'.alloc (.cells #[.int .i64 0, .int .i64 0] 81))
  have WO := hide (windowOf_any 0 (L : Int) (a : Int) (b : Int))
  clear E0 E0' h ht
  go_enter Tryd.func46, Tryd.ntmps46
  have P := hide (getG_no E1.out.rd 64 (ni := 64) rfl (by decide) hr.out)
  go_wp2_with fail
  refine P.out.mono ?_
  rintro e w2 ⟨rfl, j, hj⟩
  have E2 := hide (E1.out.drewN j)
  have R2 := hide (R0.out.drewN j)
  have S2 := hide (S0.out.drewN j)
  rw [← hj] at E2 R2 S2
  clear P E1 R0 hj S0
  have s0 := S2.out.bx.st4.c0
  have s1 := S2.out.bx.st4.c1
  have s2 := S2.out.bx.st4.c2
  have s3 := S2.out.bx.st4.c3
  go_wp2_with fail
  refine (WO.out _).mono ?_
  rintro e w6 ⟨rfl, b6⟩
  have E6 := hide (E2.out.below b6)
  have R6 := hide (R2.out.below b6)
  clear E2 R2 S2 b6 s0 s1 s2 s3
  have X2 := (R6.out.bx.set2 (.int .i64 (a : Int)) (.int .i64 (b : Int))).st2
  have FIN := hide (E6.out.but (but_set2 w6 (w.heap.size + 1) (.int .i64 (a : Int)) (.int .i64 (b : Int))) (by omega) R6.out.nf)
  obtain ⟨p0, p1, p2, p3, p4⟩ := R6.out.bx.st2
  have z0 := X2.c0
  have z1 := X2.c1
  clear X2
  go_wp2_with fail
  refine bodyPost_ret (v := .tuple #[.int .u64 0, .agg #[.int .i64 (a : Int), .int .i64 (b : Int)], .int .i64 50]) (by simp [results, Tryd.f46, go_sem, z0, z1]) rfl ?_
  exact ⟨_, _, rfl, FIN.out.d⟩
set_option maxRecDepth 100000 in
set_option maxHeartbeats 4000000 in
theorem read1_f {w : World} {base p m : Nat} {v : Value} {l : List Int} (h : Rd w base p v l m) (ht : Tab w) (hb0 : 0 < base) {n L a b : Nat} (hn : n ≠ 0) (hF : rF a b (num l) l.length m = none) :
    Calls Tryd.prog 46 #[.pointer (some ⟨p, 0, none⟩), .agg #[.int .i64 (n : Int), .int .u64 (L : Int), .int .i64 (a : Int), .int .i64 (b : Int)]] w fun e w' => ∃ x y : Int, e = .returned (.tuple #[.int .u64 0, .agg #[.int .i64 x, .int .i64 y], .int .i64 50]) ∧ Did w w' base p nul nul := by
  have i0 : ¬ (n : Int) = 0 := by omega
  replace hF := hide hF
  have E0 := GS.start h ht hb0
  have hz := zero81
  have S0 := hide ((Kx.newG h 24 #[.int .i64 (n : Int), .int .u64 (L : Int), .int .i64 (a : Int), .int .i64 (b : Int)]).alloc (.cells #[.int .i64 0, .int .i64 0] 81))
  have E0' := E0.alloc (.cells #[.int .i64 (n : Int), .int .u64 (L : Int), .int .i64 (a : Int), .int .i64 (b : Int)] 24)
  have R0 := hide (Kx.newG_at E0'.rd (g := w.heap.size + 1) (by simp) 81 #[.int .i64 0, .int .i64 0])
  have E1 := hide (E0'.alloc (.cells #[.int .i64 0, .int .i64 0] 81))
  have WO := hide (windowOf_any (n : Int) (L : Int) (a : Int) (b : Int))
  clear E0 E0' h ht
  clear hn
  go_enter Tryd.func46, Tryd.ntmps46
  go_wp2_with fail
  refine (WO.out _).mono ?_
  rintro e w2 ⟨rfl, b2⟩
  have E2 := hide (E1.out.below b2)
  have R2 := hide (R0.out.below b2)
  clear E1 R0 S0 b2
  have P := hide (rform_no E2.out.rd E2.out.t E2.out.b0 hF.out)
  go_wp2_with fail
  refine P.out.mono ?_
  rintro e w5 ⟨x, y, z, rfl, D5⟩
  have R5 := hide (R2.out.didN D5)
  have DD := E2.out.d.trans D5
  have bw := hide E2.out.bw
  have hbb := hide (show base ≤ w5.heap.size by have := E2.out.rd.lt; have := D5.bel.size; omega)
  have R6 := hide (R5.out.alloc (.cells #[.int .i64 x, .int .i64 y, .int .i64 z] 102))
  have bt := but_set2 (w5.alloc (.cells #[.int .i64 x, .int .i64 y, .int .i64 z] 102)) (w.heap.size + 1) (.int .i64 0) (.int .i64 0)
  have D6 := DD.post ((Below.refl _ w5).alloc (Nat.le_refl _) (.cells #[.int .i64 x, .int .i64 y, .int .i64 z] 102)) hbb.out
  have hbel : Below base (w5.alloc (.cells #[.int .i64 x, .int .i64 y, .int .i64 z] 102)) _ := bt.below (by simp; have := hbb.out; omega) (fun i hi => by have := bw.out; omega)
  have D7 : Hid (Did w _ base p nul nul) := ⟨D6.bel.trans hbel, D6.but.trans bt (fun i hi e => by omega), D6.own⟩
  clear P E2 R2 D5 DD R5 bt D6 hbel
  have X2 := (R6.out.bx.set2 (.int .i64 0) (.int .i64 0)).st2
  obtain ⟨p0, p1, p2, p3, p4⟩ := R6.out.bx.st2
  have z0 := X2.c0
  have z1 := X2.c1
  clear X2
  go_wp2_with fail
  refine bodyPost_ret (v := .tuple #[.int .u64 0, .agg #[.int .i64 0, .int .i64 0], .int .i64 50]) (by simp [results, Tryd.f46, go_sem, z0, z1]) rfl ?_
  exact ⟨_, _, rfl, D7.out⟩

set_option maxRecDepth 100000 in
set_option maxHeartbeats 4000000 in
theorem read1_b {w : World} {base p m : Nat} {v : Value} {l : List Int} (h : Rd w base p v l m) (ht : Tab w) (hb0 : 0 < base) {n L a b mk fa fb m' : Nat} (hn : n ≠ 0) (hw : OkW a b) (hF : rF a b (num l) l.length m = some (mk, fa, fb, m')) (hr : 8 * l.length < m' + fS mk fa fb) :
    Calls Tryd.prog 46 #[.pointer (some ⟨p, 0, none⟩), .agg #[.int .i64 (n : Int), .int .u64 (L : Int), .int .i64 (a : Int), .int .i64 (b : Int)]] w fun e w' => ∃ x y : Int, e = .returned (.tuple #[.int .u64 0, .agg #[.int .i64 x, .int .i64 y], .int .i64 50]) ∧ Did w w' base p nul nul := by
  have i0 : ¬ (n : Int) = 0 := by omega
  obtain ⟨hfab, hmm, hmN⟩ := rF_bound hw hF
  obtain ⟨s, hs⟩ : ∃ s, fS mk fa fb = s := ⟨_, rfl⟩
  have hs64 := hide (show s ≤ 64 by rw [← hs]; unfold fS; split <;> omega)
  have SZ := hide (fun w => size_any (mk : Int) (fa : Int) (fb : Int) (s : Int) w (by omega) (by omega) (by rw [← hs]; unfold fS; by_cases h : mk = 0 <;> simp [h] <;> omega))
  replace hF := hide hF
  rw [hs] at hr
  replace hr := hide hr
  replace hmm := hide hmm
  replace hmN := hide hmN
  have E0 := GS.start h ht hb0
  have hz := zero81
  have S0 := hide ((Kx.newG h 24 #[.int .i64 (n : Int), .int .u64 (L : Int), .int .i64 (a : Int), .int .i64 (b : Int)]).alloc (.cells #[.int .i64 0, .int .i64 0] 81))
  have E0' := E0.alloc (.cells #[.int .i64 (n : Int), .int .u64 (L : Int), .int .i64 (a : Int), .int .i64 (b : Int)] 24)
  have R0 := hide (Kx.newG_at E0'.rd (g := w.heap.size + 1) (by simp) 81 #[.int .i64 0, .int .i64 0])
  have E1 := hide (E0'.alloc (.cells #[.int .i64 0, .int .i64 0] 81))
  have WO := hide (windowOf_any (n : Int) (L : Int) (a : Int) (b : Int))
  clear E0 E0' h ht
  clear hn
  go_enter Tryd.func46, Tryd.ntmps46
  go_wp2_with fail
  refine (WO.out _).mono ?_
  rintro e w2 ⟨rfl, b2⟩
  have E2 := hide (E1.out.below b2)
  have R2 := hide (R0.out.below b2)
  have S2 := hide (S0.out.below b2)
  clear E1 R0 S0 b2
  have P := hide (rform_ok E2.out.rd E2.out.t E2.out.b0 hF.out)
  go_wp2_with fail
  refine P.out.mono ?_
  rintro e w3 ⟨rfl, W3, D3⟩
  have E3' := E2.out.get D3 W3
  have F3 := hide (Kx.newG E3'.rd 102 #[.int .i64 (mk : Int), .int .i64 (fa : Int), .int .i64 (fb : Int)])
  have R3' := R2.out.didN D3
  have S3' := S2.out.didN D3
  have hg3 : Hid (w.heap.size + 1 < w3.heap.size ∧ w3.heap.size ≠ w.heap.size) := by have := R3'.bx.lt; have := S3'.bx.lt; show _ ∧ _; omega
  have E3 := hide (E3'.alloc (.cells #[.int .i64 (mk : Int), .int .i64 (fa : Int), .int .i64 (fb : Int)] 102))
  have R3 := hide (R3'.alloc (.cells #[.int .i64 (mk : Int), .int .i64 (fa : Int), .int .i64 (fb : Int)] 102))
  have S3 := hide (S3'.alloc (.cells #[.int .i64 (mk : Int), .int .i64 (fa : Int), .int .i64 (fb : Int)] 102))
  clear P E2 R2 S2 W3 D3 E3' R3' S3'
  go_wp2_with fail
  refine (SZ.out _).mono ?_
  rintro e w4 ⟨rfl, b4⟩
  have E4 := hide (E3.out.below b4)
  have R4 := hide (R3.out.below b4)
  have S4 := hide (S3.out.below b4)
  have F4 := hide (F3.out.below b4)
  clear E3 R3 S3 F3 b4 SZ
  have P := hide (getG_no E4.out.rd s (ni := (s : Int)) rfl hs64.out hr.out)
  go_wp2_with fail
  refine P.out.mono ?_
  rintro e w6 ⟨rfl, j, hj⟩
  have E6 := hide (E4.out.drewN j)
  have R6 := hide (R4.out.drewN j)
  rw [← hj] at E6 R6 
  clear P E4 R4 hj 
  have X2 := (R6.out.bx.set2 (.int .i64 0) (.int .i64 0)).st2
  have FIN := hide (E6.out.but (but_set2 w6 (w.heap.size + 1) (.int .i64 0) (.int .i64 0)) (by omega) R6.out.nf)
  obtain ⟨p0, p1, p2, p3, p4⟩ := R6.out.bx.st2
  have z0 := X2.c0
  have z1 := X2.c1
  clear X2
  go_wp2_with fail
  refine bodyPost_ret (v := .tuple #[.int .u64 0, .agg #[.int .i64 0, .int .i64 0], .int .i64 50]) (by simp [results, Tryd.f46, go_sem, z0, z1]) rfl ?_
  exact ⟨_, _, rfl, FIN.out.d⟩
set_option maxRecDepth 100000 in
set_option maxHeartbeats 4000000 in
theorem read1_n {w : World} {base p m : Nat} {v : Value} {l : List Int} (h : Rd w base p v l m) (ht : Tab w) (hb0 : 0 < base) {n L a b mk fa fb m' : Nat} (hn : n ≠ 0) (hw : OkW a b) (hF : rF a b (num l) l.length m = some (mk, fa, fb, m')) (hr : m' + fS mk fa fb ≤ 8 * l.length) (hD : ¬ (dM a b (rd (num l) l.length m' (fS mk fa fb) * 2 ^ fb) = mk ∧ dA a b (rd (num l) l.length m' (fS mk fa fb) * 2 ^ fb) = fa ∧ dB a b (rd (num l) l.length m' (fS mk fa fb) * 2 ^ fb) = fb)) :
    Calls Tryd.prog 46 #[.pointer (some ⟨p, 0, none⟩), .agg #[.int .i64 (n : Int), .int .u64 (L : Int), .int .i64 (a : Int), .int .i64 (b : Int)]] w fun e w' => ∃ x y : Int, e = .returned (.tuple #[.int .u64 0, .agg #[.int .i64 x, .int .i64 y], .int .i64 50]) ∧ Did w w' base p nul nul := by
  have i0 : ¬ (n : Int) = 0 := by omega
  obtain ⟨hfab, hmm, hmN⟩ := rF_bound hw hF
  obtain ⟨s, hs⟩ : ∃ s, fS mk fa fb = s := ⟨_, rfl⟩
  have hs64 := hide (show s ≤ 64 by rw [← hs]; unfold fS; split <;> omega)
  have SZ := hide (fun w => size_any (mk : Int) (fa : Int) (fb : Int) (s : Int) w (by omega) (by omega) (by rw [← hs]; unfold fS; by_cases h : mk = 0 <;> simp [h] <;> omega))
  replace hF := hide hF
  rw [hs] at hr
  replace hr := hide hr
  replace hmm := hide hmm
  replace hmN := hide hmN
  have E0 := GS.start h ht hb0
  have hz := zero81
  have S0 := hide ((Kx.newG h 24 #[.int .i64 (n : Int), .int .u64 (L : Int), .int .i64 (a : Int), .int .i64 (b : Int)]).alloc (.cells #[.int .i64 0, .int .i64 0] 81))
  have E0' := E0.alloc (.cells #[.int .i64 (n : Int), .int .u64 (L : Int), .int .i64 (a : Int), .int .i64 (b : Int)] 24)
  have R0 := hide (Kx.newG_at E0'.rd (g := w.heap.size + 1) (by simp) 81 #[.int .i64 0, .int .i64 0])
  have E1 := hide (E0'.alloc (.cells #[.int .i64 0, .int .i64 0] 81))
  have WO := hide (windowOf_any (n : Int) (L : Int) (a : Int) (b : Int))
  clear E0 E0' h ht
  clear hn
  go_enter Tryd.func46, Tryd.ntmps46
  go_wp2_with fail
  refine (WO.out _).mono ?_
  rintro e w2 ⟨rfl, b2⟩
  have E2 := hide (E1.out.below b2)
  have R2 := hide (R0.out.below b2)
  have S2 := hide (S0.out.below b2)
  clear E1 R0 S0 b2
  have P := hide (rform_ok E2.out.rd E2.out.t E2.out.b0 hF.out)
  go_wp2_with fail
  refine P.out.mono ?_
  rintro e w3 ⟨rfl, W3, D3⟩
  have E3' := E2.out.get D3 W3
  have F3 := hide (Kx.newG E3'.rd 102 #[.int .i64 (mk : Int), .int .i64 (fa : Int), .int .i64 (fb : Int)])
  have R3' := R2.out.didN D3
  have S3' := S2.out.didN D3
  have hg3 : Hid (w.heap.size + 1 < w3.heap.size ∧ w3.heap.size ≠ w.heap.size) := by have := R3'.bx.lt; have := S3'.bx.lt; show _ ∧ _; omega
  have E3 := hide (E3'.alloc (.cells #[.int .i64 (mk : Int), .int .i64 (fa : Int), .int .i64 (fb : Int)] 102))
  have R3 := hide (R3'.alloc (.cells #[.int .i64 (mk : Int), .int .i64 (fa : Int), .int .i64 (fb : Int)] 102))
  have S3 := hide (S3'.alloc (.cells #[.int .i64 (mk : Int), .int .i64 (fa : Int), .int .i64 (fb : Int)] 102))
  clear P E2 R2 S2 W3 D3 E3' R3' S3'
  go_wp2_with fail
  refine (SZ.out _).mono ?_
  rintro e w4 ⟨rfl, b4⟩
  have E4 := hide (E3.out.below b4)
  have R4 := hide (R3.out.below b4)
  have S4 := hide (S3.out.below b4)
  have F4 := hide (F3.out.below b4)
  clear E3 R3 S3 F3 b4 SZ
  obtain ⟨y, hy⟩ : ∃ y, rd (num l) l.length m' s = y := ⟨_, rfl⟩
  have P := hide (getG E4.out.rd s (ni := (s : Int)) (xi := (y : Int)) (x := y) rfl hy rfl hs64.out hr.out)
  go_wp2_with fail
  refine P.out.mono ?_
  rintro e w5 ⟨rfl, W5, D5⟩
  have E5 := hide (E4.out.get D5 W5)
  have R5 := hide (R4.out.didN D5)
  have S5 := hide (S4.out.didN D5)
  have F5 := hide (F4.out.didN D5)
  clear P E4 R4 W5 D5 S4 F4
  have hxx := x_lt (mk := mk) (V := num l) (N := l.length) (m := m') hfab
  rw [hs, hy] at hxx
  have hsh : IntKind.u64.wrap ((y : Int) * 2 ^ fb) = ((y * 2 ^ fb : Nat) : Int) := by
    rw [IntKind.wrap_u64, show (y : Int) * 2 ^ fb = ((y * 2 ^ fb : Nat) : Int) by simp]
    omega
  have hmin : min fb 64 = fb := by omega
  have ifb : (fb : Int) ≤ 64 := by omega
  have FO := hide (fun w => formOf_any (y * 2 ^ fb) a b w hxx (by rcases hw with h | h <;> omega) (by rcases hw with h | h <;> omega))
  rw [hs, hy] at hD
  obtain ⟨x, hxe⟩ : ∃ x, y * 2 ^ fb = x := ⟨_, rfl⟩
  rw [hxe] at hD FO hsh hxx
  obtain ⟨q0, h0q⟩ : ∃ q, dM a b x = q := ⟨_, rfl⟩
  obtain ⟨q1, h1q⟩ : ∃ q, dA a b x = q := ⟨_, rfl⟩
  obtain ⟨q2, h2q⟩ : ∃ q, dB a b x = q := ⟨_, rfl⟩
  rw [h0q, h1q, h2q] at hD FO
  have hneq : ∀ w, (binOp .neq 102 (.agg #[.int .i64 (q0 : Int), .int .i64 (q1 : Int), .int .i64 (q2 : Int)]) (.agg #[.int .i64 (mk : Int), .int .i64 (fa : Int), .int .i64 (fb : Int)])).run Tryd.prog w = .ok (.bool true) w := fun w => by
    rw [run_neq102, show decide ((q0 : Int) = (mk : Int) ∧ (q1 : Int) = (fa : Int) ∧ (q2 : Int) = (fb : Int)) = false by simp; omega]; rfl
  replace hxx := hide hxx
  replace hy := hide hy
  replace hs := hide hs
  replace hfab := hide hfab
  replace hxe := hide hxe
  replace hD := hide hD
  clear h0q h1q h2q
  have s0 := S5.out.bx.st4.c0
  have s1 := S5.out.bx.st4.c1
  have s2 := S5.out.bx.st4.c2
  have s3 := S5.out.bx.st4.c3
  have f0 := F5.out.bx.st3.c0
  have f1 := F5.out.bx.st3.c1
  have f2 := F5.out.bx.st3.c2
  go_wp2_with fail
  obtain ⟨gF, hgF⟩ : ∃ g, g = w3.heap.size := ⟨_, rfl⟩
  simp only [← hgF] at F5 hg3 ⊢
  clear hgF s0 s1 s2 s3 f0 f1 f2
  refine wp_region_noPanic ?_
  refine wp_region_held_drew (S := (fun w' => St4 w' w.heap.size (.int .i64 (n : Int)) (.int .u64 (L : Int)) (.int .i64 (a : Int)) (.int .i64 (b : Int)) ∧ St3 w' gF (.int .i64 (mk : Int)) (.int .i64 (fa : Int)) (.int .i64 (fb : Int)))) (by kernel_rfl) ⟨S5.out.drew.bx.st4, F5.out.drew.bx.st3⟩ (fun hH0 => ?_)
  have E6 := hide E5.out.drew
  have R6 := hide R5.out.drew
  have S6 := hide S5.out.drew
  have F6 := hide F5.out.drew
  clear E5 R5 S5 F5
  refine wpAnyH_take (i := 0) (oi := { dst := some 51, op := Op.move (Operand.tmp 11), type := 22, pos := "xor.go:181", after := #[], guard := none }) (v := ?_) rfl (by kernel_rfl) (by kernel_rfl) (by kernel_rfl) (fun _ _ _ h => h) (Or.inl ⟨by rfl, ?_⟩) hH0 ?_
  rotate_left
  · intro w' hw'
    obtain ⟨⟨s0, s1, s2, s3, -, -, -, -, -, -, -⟩, ⟨f0, f1, f2, -, -, -, -, -⟩⟩ := hw'
    go_simp
    try with_reducible rfl
  try simp only [Act.put, List.setIfInBounds_toArray, List.set_cons_zero, List.set_cons_succ]
  refine wpAnyH_take (i := 1) (oi := { dst := some 52, op := Op.load 24 (Operand.tmp 3), type := 24, pos := "xor.go:181", after := #[], guard := none }) (v := ?_) rfl (by kernel_rfl) (by kernel_rfl) (by kernel_rfl) (fun _ _ _ h => h) (Or.inl ⟨by rfl, ?_⟩) hH0 ?_
  rotate_left
  · intro w' hw'
    obtain ⟨⟨s0, s1, s2, s3, -, -, -, -, -, -, -⟩, ⟨f0, f1, f2, -, -, -, -, -⟩⟩ := hw'
    go_simp
    try with_reducible rfl
  try simp only [Act.put, List.setIfInBounds_toArray, List.set_cons_zero, List.set_cons_succ]
  refine wpAnyH_take (i := 4) (oi := { dst := some 55, op := Op.load 102 (Operand.tmp 9), type := 102, pos := "xor.go:181", after := #[], guard := none }) (v := ?_) rfl (by kernel_rfl) (by kernel_rfl) (by kernel_rfl) (fun _ _ _ h => h) (Or.inl ⟨by rfl, ?_⟩) hH0 ?_
  rotate_left
  · intro w' hw'
    obtain ⟨⟨s0, s1, s2, s3, -, -, -, -, -, -, -⟩, ⟨f0, f1, f2, -, -, -, -, -⟩⟩ := hw'
    go_simp
    try with_reducible rfl
  try simp only [Act.put, List.setIfInBounds_toArray, List.set_cons_zero, List.set_cons_succ]
  refine wpAnyH_ready (rs := [2]) (by kernel_rfl) (by simp) ?_
  refine AllReadyH.cons (o := { dst := some 53, op := Op.call { callee := Callee.value (Operand.func 50), args := #[Operand.tmp 52], argTypes := #[24] }, type := 81, pos := "xor.go:181", after := #[{ on := 1, ground := Ground.data }], guard := none }) rfl (fun K hK => ?_) AllReadyH.nil
  go_simp
  refine (WO.out _).mono ?_
  rintro e w7 ⟨rfl, b7⟩
  have E7 := hide (E6.out.below b7)
  have R7 := hide (R6.out.below b7)
  have S7 := hide (S6.out.below b7)
  have F7 := hide (F6.out.below b7)
  clear E6 R6 S6 F6
  refine hK.out _ _ ⟨S7.out.bx.st4, F7.out.bx.st3⟩ (fun hH1 => ?_)
  clear hK
  try simp only [Act.put, List.setIfInBounds_toArray, List.set_cons_zero, List.set_cons_succ]
  refine wpAnyH_ready (rs := [3]) (by kernel_rfl) (by simp) ?_
  refine AllReadyH.cons (o := { dst := some 54, op := Op.call { callee := Callee.value (Operand.func 52), args := #[Operand.tmp 51, Operand.tmp 53], argTypes := #[22, 81] }, type := 102, pos := "xor.go:181", after := #[{ on := 0, ground := Ground.data }, { on := 2, ground := Ground.data }, { on := 2, ground := Ground.chain }], guard := none }) rfl (fun K hK => ?_) AllReadyH.nil
  go_simp
  refine (FO.out _ E7.out.t).mono ?_
  rintro e w8 ⟨rfl, b8⟩
  have E8 := hide (E7.out.below b8)
  have R8 := hide (R7.out.below b8)
  have S8 := hide (S7.out.below b8)
  have F8 := hide (F7.out.below b8)
  clear E7 R7 S7 F7
  refine hK.out _ _ ⟨S8.out.bx.st4, F8.out.bx.st3⟩ (fun hH2 => ?_)
  clear hK
  try simp only [Act.put, List.setIfInBounds_toArray, List.set_cons_zero, List.set_cons_succ]
  refine wpAnyH_take (i := 5) (oi := { dst := some 56, op := Op.binOp BinOp.neq 102 (Operand.tmp 54) (Operand.tmp 55) 102, type := 4, pos := "xor.go:181", after := #[{ on := 3, ground := Ground.data }, { on := 4, ground := Ground.data }], guard := none }) (v := ?_) rfl (by kernel_rfl) (by kernel_rfl) (by kernel_rfl) (fun _ _ _ h => h) (Or.inl ⟨by rfl, ?_⟩) hH2 ?_
  rotate_left
  · intro w' hw'
    obtain ⟨⟨s0, s1, s2, s3, -, -, -, -, -, -, -⟩, ⟨f0, f1, f2, -, -, -, -, -⟩⟩ := hw'
    go_simp
    try with_reducible rfl
  try simp only [Act.put, List.setIfInBounds_toArray, List.set_cons_zero, List.set_cons_succ]
  refine wpAnyH_done (by kernel_rfl) ?_ _
  refine NoPanic.normal ?_
  have X2 := (R8.out.bx.set2 (.int .i64 0) (.int .i64 0)).st2
  have FIN := hide (E8.out.but (but_set2 w8 (w.heap.size + 1) (.int .i64 0) (.int .i64 0)) (by omega) R8.out.nf)
  obtain ⟨p0, p1, p2, p3, p4⟩ := R8.out.bx.st2
  have z0 := X2.c0
  have z1 := X2.c1
  clear X2
  go_wp2_with fail
  refine bodyPost_ret (v := .tuple #[.int .u64 0, .agg #[.int .i64 0, .int .i64 0], .int .i64 50]) (by simp [results, Tryd.f46, go_sem, z0, z1]) rfl ?_
  exact ⟨_, _, rfl, FIN.out.d⟩
set_option maxRecDepth 100000 in
set_option maxHeartbeats 4000000 in
theorem read1_ok {w : World} {base p m : Nat} {v : Value} {l : List Int} (h : Rd w base p v l m) (ht : Tab w) (hb0 : 0 < base) {n L a b mk fa fb m' : Nat} (hn : n ≠ 0) (hw : OkW a b) (hF : rF a b (num l) l.length m = some (mk, fa, fb, m')) (hL : L < 18446744073709551616) (hr : m' + fS mk fa fb ≤ 8 * l.length) (hD : dM a b (rd (num l) l.length m' (fS mk fa fb) * 2 ^ fb) = mk ∧ dA a b (rd (num l) l.length m' (fS mk fa fb) * 2 ^ fb) = fa ∧ dB a b (rd (num l) l.length m' (fS mk fa fb) * 2 ^ fb) = fb) :
    Calls Tryd.prog 46 #[.pointer (some ⟨p, 0, none⟩), .agg #[.int .i64 (n : Int), .int .u64 (L : Int), .int .i64 (a : Int), .int .i64 (b : Int)]] w fun e w' => e = .returned (.tuple #[.int .u64 ((L ^^^ (rd (num l) l.length m' (fS mk fa fb) * 2 ^ fb) : Nat) : Int), .agg #[.int .i64 (fa : Int), .int .i64 (fb : Int)], .int .i64 0]) ∧ Rd w' base p v l (m' + fS mk fa fb) ∧ Did w w' base p nul nul := by
  have i0 : ¬ (n : Int) = 0 := by omega
  obtain ⟨hfab, hmm, hmN⟩ := rF_bound hw hF
  obtain ⟨s, hs⟩ : ∃ s, fS mk fa fb = s := ⟨_, rfl⟩
  have hs64 := hide (show s ≤ 64 by rw [← hs]; unfold fS; split <;> omega)
  have SZ := hide (fun w => size_any (mk : Int) (fa : Int) (fb : Int) (s : Int) w (by omega) (by omega) (by rw [← hs]; unfold fS; by_cases h : mk = 0 <;> simp [h] <;> omega))
  replace hF := hide hF
  rw [hs] at hr ⊢
  obtain ⟨y, hy⟩ : ∃ y, rd (num l) l.length m' s = y := ⟨_, rfl⟩
  rw [hy]
  obtain ⟨X, hX⟩ : ∃ X, L ^^^ (y * 2 ^ fb) = X := ⟨_, rfl⟩
  rw [hX]
  replace hX := hide hX
  replace hy := hide hy
  replace hr := hide hr
  replace hmm := hide hmm
  replace hmN := hide hmN
  have E0 := GS.start h ht hb0
  have hz := zero81
  have S0 := hide ((Kx.newG h 24 #[.int .i64 (n : Int), .int .u64 (L : Int), .int .i64 (a : Int), .int .i64 (b : Int)]).alloc (.cells #[.int .i64 0, .int .i64 0] 81))
  have E0' := E0.alloc (.cells #[.int .i64 (n : Int), .int .u64 (L : Int), .int .i64 (a : Int), .int .i64 (b : Int)] 24)
  have R0 := hide (Kx.newG_at E0'.rd (g := w.heap.size + 1) (by simp) 81 #[.int .i64 0, .int .i64 0])
  have E1 := hide (E0'.alloc (.cells #[.int .i64 0, .int .i64 0] 81))
  have WO := hide (windowOf_any (n : Int) (L : Int) (a : Int) (b : Int))
  clear E0 E0' h ht
  clear hn
  go_enter Tryd.func46, Tryd.ntmps46
  go_wp2_with fail
  refine (WO.out _).mono ?_
  rintro e w2 ⟨rfl, b2⟩
  have E2 := hide (E1.out.below b2)
  have R2 := hide (R0.out.below b2)
  have S2 := hide (S0.out.below b2)
  clear E1 R0 S0 b2
  have P := hide (rform_ok E2.out.rd E2.out.t E2.out.b0 hF.out)
  go_wp2_with fail
  refine P.out.mono ?_
  rintro e w3 ⟨rfl, W3, D3⟩
  have E3' := E2.out.get D3 W3
  have F3 := hide (Kx.newG E3'.rd 102 #[.int .i64 (mk : Int), .int .i64 (fa : Int), .int .i64 (fb : Int)])
  have R3' := R2.out.didN D3
  have S3' := S2.out.didN D3
  have hg3 : Hid (w.heap.size + 1 < w3.heap.size ∧ w3.heap.size ≠ w.heap.size) := by have := R3'.bx.lt; have := S3'.bx.lt; show _ ∧ _; omega
  have E3 := hide (E3'.alloc (.cells #[.int .i64 (mk : Int), .int .i64 (fa : Int), .int .i64 (fb : Int)] 102))
  have R3 := hide (R3'.alloc (.cells #[.int .i64 (mk : Int), .int .i64 (fa : Int), .int .i64 (fb : Int)] 102))
  have S3 := hide (S3'.alloc (.cells #[.int .i64 (mk : Int), .int .i64 (fa : Int), .int .i64 (fb : Int)] 102))
  clear P E2 R2 S2 W3 D3 E3' R3' S3'
  go_wp2_with fail
  refine (SZ.out _).mono ?_
  rintro e w4 ⟨rfl, b4⟩
  have E4 := hide (E3.out.below b4)
  have R4 := hide (R3.out.below b4)
  have S4 := hide (S3.out.below b4)
  have F4 := hide (F3.out.below b4)
  clear E3 R3 S3 F3 b4 SZ
  replace hy := hy.out
  have P := hide (getG E4.out.rd s (ni := (s : Int)) (xi := (y : Int)) (x := y) rfl hy rfl hs64.out hr.out)
  go_wp2_with fail
  refine P.out.mono ?_
  rintro e w5 ⟨rfl, W5, D5⟩
  have E5 := hide (E4.out.get D5 W5)
  have R5 := hide (R4.out.didN D5)
  have S5 := hide (S4.out.didN D5)
  have F5 := hide (F4.out.didN D5)
  clear P E4 R4 W5 D5 S4 F4
  have hxx := x_lt (mk := mk) (V := num l) (N := l.length) (m := m') hfab
  rw [hs, hy] at hxx
  have hsh : IntKind.u64.wrap ((y : Int) * 2 ^ fb) = ((y * 2 ^ fb : Nat) : Int) := by
    rw [IntKind.wrap_u64, show (y : Int) * 2 ^ fb = ((y * 2 ^ fb : Nat) : Int) by simp]
    omega
  have hmin : min fb 64 = fb := by omega
  have ifb : (fb : Int) ≤ 64 := by omega
  have FO := hide (fun w => formOf_any (y * 2 ^ fb) a b w hxx (by rcases hw with h | h <;> omega) (by rcases hw with h | h <;> omega))
  rw [hs, hy] at hD
  have hxr := u64_xor_nat L (y * 2 ^ fb) hL hxx
  rw [hX.out] at hxr
  obtain ⟨hD1, hD2, hD3⟩ := hD
  rw [hD1, hD2, hD3] at FO
  have hneq : ∀ w, (binOp .neq 102 (.agg #[.int .i64 (mk : Int), .int .i64 (fa : Int), .int .i64 (fb : Int)]) (.agg #[.int .i64 (mk : Int), .int .i64 (fa : Int), .int .i64 (fb : Int)])).run Tryd.prog w = .ok (.bool false) w := fun w => by rw [run_neq102]; simp
  replace hxx := hide hxx
  replace hy := hide hy
  replace hs := hide hs
  replace hfab := hide hfab
  clear hD1 hD2 hD3
  generalize y * 2 ^ fb = x at *
  have s0 := S5.out.bx.st4.c0
  have s1 := S5.out.bx.st4.c1
  have s2 := S5.out.bx.st4.c2
  have s3 := S5.out.bx.st4.c3
  have f0 := F5.out.bx.st3.c0
  have f1 := F5.out.bx.st3.c1
  have f2 := F5.out.bx.st3.c2
  go_wp2_with fail
  obtain ⟨gF, hgF⟩ : ∃ g, g = w3.heap.size := ⟨_, rfl⟩
  simp only [← hgF] at F5 hg3 ⊢
  clear hgF s0 s1 s2 s3 f0 f1 f2
  refine wp_region_noPanic ?_
  refine wp_region_held_drew (S := (fun w' => St4 w' w.heap.size (.int .i64 (n : Int)) (.int .u64 (L : Int)) (.int .i64 (a : Int)) (.int .i64 (b : Int)) ∧ St3 w' gF (.int .i64 (mk : Int)) (.int .i64 (fa : Int)) (.int .i64 (fb : Int)))) (by kernel_rfl) ⟨S5.out.drew.bx.st4, F5.out.drew.bx.st3⟩ (fun hH0 => ?_)
  have E6 := hide E5.out.drew
  have R6 := hide R5.out.drew
  have S6 := hide S5.out.drew
  have F6 := hide F5.out.drew
  clear E5 R5 S5 F5
  refine wpAnyH_take (i := 0) (oi := { dst := some 51, op := Op.move (Operand.tmp 11), type := 22, pos := "xor.go:181", after := #[], guard := none }) (v := ?_) rfl (by kernel_rfl) (by kernel_rfl) (by kernel_rfl) (fun _ _ _ h => h) (Or.inl ⟨by rfl, ?_⟩) hH0 ?_
  rotate_left
  · intro w' hw'
    obtain ⟨⟨s0, s1, s2, s3, -, -, -, -, -, -, -⟩, ⟨f0, f1, f2, -, -, -, -, -⟩⟩ := hw'
    go_simp
    try with_reducible rfl
  try simp only [Act.put, List.setIfInBounds_toArray, List.set_cons_zero, List.set_cons_succ]
  refine wpAnyH_take (i := 1) (oi := { dst := some 52, op := Op.load 24 (Operand.tmp 3), type := 24, pos := "xor.go:181", after := #[], guard := none }) (v := ?_) rfl (by kernel_rfl) (by kernel_rfl) (by kernel_rfl) (fun _ _ _ h => h) (Or.inl ⟨by rfl, ?_⟩) hH0 ?_
  rotate_left
  · intro w' hw'
    obtain ⟨⟨s0, s1, s2, s3, -, -, -, -, -, -, -⟩, ⟨f0, f1, f2, -, -, -, -, -⟩⟩ := hw'
    go_simp
    try with_reducible rfl
  try simp only [Act.put, List.setIfInBounds_toArray, List.set_cons_zero, List.set_cons_succ]
  refine wpAnyH_take (i := 4) (oi := { dst := some 55, op := Op.load 102 (Operand.tmp 9), type := 102, pos := "xor.go:181", after := #[], guard := none }) (v := ?_) rfl (by kernel_rfl) (by kernel_rfl) (by kernel_rfl) (fun _ _ _ h => h) (Or.inl ⟨by rfl, ?_⟩) hH0 ?_
  rotate_left
  · intro w' hw'
    obtain ⟨⟨s0, s1, s2, s3, -, -, -, -, -, -, -⟩, ⟨f0, f1, f2, -, -, -, -, -⟩⟩ := hw'
    go_simp
    try with_reducible rfl
  try simp only [Act.put, List.setIfInBounds_toArray, List.set_cons_zero, List.set_cons_succ]
  refine wpAnyH_ready (rs := [2]) (by kernel_rfl) (by simp) ?_
  refine AllReadyH.cons (o := { dst := some 53, op := Op.call { callee := Callee.value (Operand.func 50), args := #[Operand.tmp 52], argTypes := #[24] }, type := 81, pos := "xor.go:181", after := #[{ on := 1, ground := Ground.data }], guard := none }) rfl (fun K hK => ?_) AllReadyH.nil
  go_simp
  refine (WO.out _).mono ?_
  rintro e w7 ⟨rfl, b7⟩
  have E7 := hide (E6.out.below b7)
  have R7 := hide (R6.out.below b7)
  have S7 := hide (S6.out.below b7)
  have F7 := hide (F6.out.below b7)
  clear E6 R6 S6 F6
  refine hK.out _ _ ⟨S7.out.bx.st4, F7.out.bx.st3⟩ (fun hH1 => ?_)
  clear hK
  try simp only [Act.put, List.setIfInBounds_toArray, List.set_cons_zero, List.set_cons_succ]
  refine wpAnyH_ready (rs := [3]) (by kernel_rfl) (by simp) ?_
  refine AllReadyH.cons (o := { dst := some 54, op := Op.call { callee := Callee.value (Operand.func 52), args := #[Operand.tmp 51, Operand.tmp 53], argTypes := #[22, 81] }, type := 102, pos := "xor.go:181", after := #[{ on := 0, ground := Ground.data }, { on := 2, ground := Ground.data }, { on := 2, ground := Ground.chain }], guard := none }) rfl (fun K hK => ?_) AllReadyH.nil
  go_simp
  refine (FO.out _ E7.out.t).mono ?_
  rintro e w8 ⟨rfl, b8⟩
  have E8 := hide (E7.out.below b8)
  have R8 := hide (R7.out.below b8)
  have S8 := hide (S7.out.below b8)
  have F8 := hide (F7.out.below b8)
  clear E7 R7 S7 F7
  refine hK.out _ _ ⟨S8.out.bx.st4, F8.out.bx.st3⟩ (fun hH2 => ?_)
  clear hK
  try simp only [Act.put, List.setIfInBounds_toArray, List.set_cons_zero, List.set_cons_succ]
  refine wpAnyH_take (i := 5) (oi := { dst := some 56, op := Op.binOp BinOp.neq 102 (Operand.tmp 54) (Operand.tmp 55) 102, type := 4, pos := "xor.go:181", after := #[{ on := 3, ground := Ground.data }, { on := 4, ground := Ground.data }], guard := none }) (v := ?_) rfl (by kernel_rfl) (by kernel_rfl) (by kernel_rfl) (fun _ _ _ h => h) (Or.inl ⟨by rfl, ?_⟩) hH2 ?_
  rotate_left
  · intro w' hw'
    obtain ⟨⟨s0, s1, s2, s3, -, -, -, -, -, -, -⟩, ⟨f0, f1, f2, -, -, -, -, -⟩⟩ := hw'
    go_simp
    try with_reducible rfl
  try simp only [Act.put, List.setIfInBounds_toArray, List.set_cons_zero, List.set_cons_succ]
  refine wpAnyH_done (by kernel_rfl) ?_ _
  refine NoPanic.normal ?_
  have X2 := (R8.out.bx.set2 (.int .i64 (fa : Int)) (.int .i64 (fb : Int))).st2
  have FIN := hide (E8.out.but (but_set2 w8 (w.heap.size + 1) (.int .i64 (fa : Int)) (.int .i64 (fb : Int))) (by omega) R8.out.nf).drew
  obtain ⟨p0, p1, p2, p3, p4⟩ := R8.out.bx.st2
  have z0 := X2.c0
  have z1 := X2.c1
  clear X2
  have S9 := hide (S8.out.but (but_set2 w8 (w.heap.size + 1) (.int .i64 (fa : Int)) (.int .i64 (fb : Int))) (by omega)).drew
  have F9 := hide (F8.out.but (but_set2 w8 (w.heap.size + 1) (.int .i64 (fa : Int)) (.int .i64 (fb : Int))) (by have := hg3.out; omega)).drew
  clear hH0 hH1 hH2
  go_wp2_with fail
  refine wp_region_noPanic ?_
  refine wp_region_held_drew (S := (fun w' => St4 w' w.heap.size (.int .i64 (n : Int)) (.int .u64 (L : Int)) (.int .i64 (a : Int)) (.int .i64 (b : Int)) ∧ St3 w' gF (.int .i64 (mk : Int)) (.int .i64 (fa : Int)) (.int .i64 (fb : Int)))) (by kernel_rfl) ⟨S8.out.drew.bx.st4, F8.out.drew.bx.st3⟩ (fun hH0 => ?_)
  refine wpAnyH_take (i := 0) (oi := { dst := some 58, op := Op.fieldAddr 24 (Operand.tmp 3) 1, type := 0, pos := "xor.go:184", after := #[], guard := none }) (v := ?_) rfl (by kernel_rfl) (by kernel_rfl) (by kernel_rfl) (fun _ _ _ h => h) (Or.inl ⟨by rfl, ?_⟩) hH0 ?_
  rotate_left
  · intro w' hw'
    obtain ⟨⟨s0, s1, s2, s3, -, -, -, -, -, -, -⟩, ⟨f0, f1, f2, -, -, -, -, -⟩⟩ := hw'
    go_simp
    try with_reducible rfl
  try simp only [Act.put, List.setIfInBounds_toArray, List.set_cons_zero, List.set_cons_succ]
  refine wpAnyH_take (i := 1) (oi := { dst := some 59, op := Op.load 22 (Operand.tmp 58), type := 22, pos := "xor.go:184", after := #[{ on := 0, ground := Ground.data }], guard := none }) (v := ?_) rfl (by kernel_rfl) (by kernel_rfl) (by kernel_rfl) (fun _ _ _ h => h) (Or.inl ⟨by rfl, ?_⟩) hH0 ?_
  rotate_left
  · intro w' hw'
    obtain ⟨⟨s0, s1, s2, s3, -, -, -, -, -, -, -⟩, ⟨f0, f1, f2, -, -, -, -, -⟩⟩ := hw'
    go_simp
    try with_reducible rfl
  try simp only [Act.put, List.setIfInBounds_toArray, List.set_cons_zero, List.set_cons_succ]
  refine wpAnyH_take (i := 2) (oi := { dst := some 60, op := Op.move (Operand.tmp 11), type := 22, pos := "xor.go:184", after := #[], guard := none }) (v := ?_) rfl (by kernel_rfl) (by kernel_rfl) (by kernel_rfl) (fun _ _ _ h => h) (Or.inl ⟨by rfl, ?_⟩) hH0 ?_
  rotate_left
  · intro w' hw'
    obtain ⟨⟨s0, s1, s2, s3, -, -, -, -, -, -, -⟩, ⟨f0, f1, f2, -, -, -, -, -⟩⟩ := hw'
    go_simp
    try with_reducible rfl
  try simp only [Act.put, List.setIfInBounds_toArray, List.set_cons_zero, List.set_cons_succ]
  refine wpAnyH_take (i := 3) (oi := { dst := some 61, op := Op.binOp BinOp.xor 22 (Operand.tmp 59) (Operand.tmp 60) 22, type := 22, pos := "xor.go:184", after := #[{ on := 1, ground := Ground.data }, { on := 2, ground := Ground.data }], guard := none }) (v := ?_) rfl (by kernel_rfl) (by kernel_rfl) (by kernel_rfl) (fun _ _ _ h => h) (Or.inl ⟨by rfl, ?_⟩) hH0 ?_
  rotate_left
  · intro w' hw'
    obtain ⟨⟨s0, s1, s2, s3, -, -, -, -, -, -, -⟩, ⟨f0, f1, f2, -, -, -, -, -⟩⟩ := hw'
    go_simp
    try with_reducible rfl
  try simp only [Act.put, List.setIfInBounds_toArray, List.set_cons_zero, List.set_cons_succ]
  refine wpAnyH_take (i := 4) (oi := { dst := some 62, op := Op.fieldAddr 102 (Operand.tmp 9) 1, type := 0, pos := "xor.go:184", after := #[{ on := 6, ground := Ground.gcOnly Departure.lateStores }], guard := none }) (v := ?_) rfl (by kernel_rfl) (by kernel_rfl) (by kernel_rfl) (fun _ _ _ h => h) (Or.inl ⟨by rfl, ?_⟩) hH0 ?_
  rotate_left
  · intro w' hw'
    obtain ⟨⟨s0, s1, s2, s3, -, -, -, -, -, -, -⟩, ⟨f0, f1, f2, -, -, -, -, -⟩⟩ := hw'
    go_simp
    try with_reducible rfl
  try simp only [Act.put, List.setIfInBounds_toArray, List.set_cons_zero, List.set_cons_succ]
  refine wpAnyH_take (i := 5) (oi := { dst := some 63, op := Op.load 81 (Operand.tmp 62), type := 81, pos := "xor.go:184", after := #[{ on := 4, ground := Ground.data }, { on := 6, ground := Ground.gcOnly Departure.lateStores }], guard := none }) (v := ?_) rfl (by kernel_rfl) (by kernel_rfl) (by kernel_rfl) (fun _ _ _ h => h) (Or.inl ⟨by rfl, ?_⟩) hH0 ?_
  rotate_left
  · intro w' hw'
    obtain ⟨⟨s0, s1, s2, s3, -, -, -, -, -, -, -⟩, ⟨f0, f1, f2, -, -, -, -, -⟩⟩ := hw'
    go_simp
    try with_reducible rfl
  try simp only [Act.put, List.setIfInBounds_toArray, List.set_cons_zero, List.set_cons_succ]
  refine wpAnyH_take (i := 6) (oi := { dst := some 4, op := Op.assign (Operand.tmp 61), type := 22, pos := "xor.go:184", after := #[{ on := 3, ground := Ground.data }, { on := 0, ground := Ground.phase }, { on := 1, ground := Ground.phase }, { on := 2, ground := Ground.phase }, { on := 3, ground := Ground.phase }, { on := 4, ground := Ground.textOnly Departure.lateStores }, { on := 5, ground := Ground.textOnly Departure.lateStores }], guard := none }) (v := ?_) rfl (by kernel_rfl) (by kernel_rfl) (by kernel_rfl) (fun _ _ _ h => h) (Or.inl ⟨by rfl, ?_⟩) hH0 ?_
  rotate_left
  · intro w' hw'
    obtain ⟨⟨s0, s1, s2, s3, -, -, -, -, -, -, -⟩, ⟨f0, f1, f2, -, -, -, -, -⟩⟩ := hw'
    go_simp
    try with_reducible rfl
  try simp only [Act.put, List.setIfInBounds_toArray, List.set_cons_zero, List.set_cons_succ]
  refine wpAnyH_ready (rs := [7]) (by kernel_rfl) (by simp) ?_
  refine AllReadyH.cons (o := { dst := none, op := Op.store 81 (Operand.tmp 5) (Operand.tmp 63), type := 0, pos := "xor.go:184", after := #[{ on := 5, ground := Ground.data }, { on := 6, ground := Ground.chain }, { on := 0, ground := Ground.phase }, { on := 1, ground := Ground.phase }, { on := 2, ground := Ground.phase }, { on := 3, ground := Ground.phase }, { on := 4, ground := Ground.phase }, { on := 5, ground := Ground.phase }, { on := 6, ground := Ground.phase }], guard := none }) rfl (fun K hK => ?_) AllReadyH.nil
  go_simp
  refine hK.out _ _ ⟨S9.out.bx.st4, F9.out.bx.st3⟩ (fun hH1 => ?_)
  clear hK
  try simp only [Act.put, List.setIfInBounds_toArray, List.set_cons_zero, List.set_cons_succ]
  refine wpAnyH_take (i := 8) (oi := { dst := some 6, op := Op.assign (Operand.const (Value.int IntKind.i64 0)), type := 32, pos := "xor.go:184", after := #[{ on := 7, ground := Ground.chain }, { on := 0, ground := Ground.phase }, { on := 1, ground := Ground.phase }, { on := 2, ground := Ground.phase }, { on := 3, ground := Ground.phase }, { on := 4, ground := Ground.phase }, { on := 5, ground := Ground.phase }, { on := 6, ground := Ground.phase }, { on := 7, ground := Ground.phase }], guard := none }) (v := ?_) rfl (by kernel_rfl) (by kernel_rfl) (by kernel_rfl) (fun _ _ _ h => h) (Or.inl ⟨by rfl, ?_⟩) hH1 ?_
  rotate_left
  · intro w' hw'
    obtain ⟨⟨s0, s1, s2, s3, -, -, -, -, -, -, -⟩, ⟨f0, f1, f2, -, -, -, -, -⟩⟩ := hw'
    go_simp
    try with_reducible rfl
  try simp only [Act.put, List.setIfInBounds_toArray, List.set_cons_zero, List.set_cons_succ]
  refine wpAnyH_done (by kernel_rfl) ?_ _
  refine NoPanic.normal ?_
  go_wp2_with fail
  refine bodyPost_ret (v := .tuple #[.int .u64 (X : Int), .agg #[.int .i64 (fa : Int), .int .i64 (fb : Int)], .int .i64 0]) (by simp [results, Tryd.f46, go_sem, z0, z1]) rfl ?_
  exact ⟨rfl, FIN.out.rd, FIN.out.d⟩
end Go.Proofs.YtmddkinecplooaaDoor
