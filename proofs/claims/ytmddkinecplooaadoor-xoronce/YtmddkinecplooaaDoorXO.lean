/-
  readWindow, readForm.
-/
import Derived.Test.YtmddkinecplooaaDoorXN
namespace Go.Proofs.YtmddkinecplooaaDoor
open Go.RowKit
set_option linter.unusedVariables false
set_option linter.unusedSimpArgs false

set_option maxRecDepth 100000 in
set_option maxHeartbeats 2000000 in
theorem rwin_ok {w : World} {base p m : Nat} {v : Value} {l : List Int} (h : Rd w base p v l m) (ht : Tab w) (hb0 : 0 < base) {A S : Nat} (hr : m + 12 ≤ 8 * l.length) (hA : rd (num l) l.length m 6 = A) (hS : rd (num l) l.length (m + 6) 6 = S) (hAS : A + (S + 1) ≤ 64) :
    Calls Tryd.prog 58 #[.pointer (some ⟨p, 0, none⟩)] w fun e w' => e = .returned (.tuple #[.agg #[.int .i64 (A : Int), .int .i64 ((64 - A - (S + 1) : Nat) : Int)], .int .i64 0]) ∧ Rd w' base p v l (m + 12) ∧ Did w w' base p nul nul := by
  obtain ⟨T, hT⟩ : ∃ T, 64 - A - (S + 1) = T := ⟨_, rfl⟩
  rw [hT]
  have e1 : (64 : Int) - (A : Int) - ((S : Int) + 1) = (T : Int) := by omega
  have i1 : (A : Int) ≤ 64 := by omega
  have i2 : (S : Int) ≤ 64 := by omega
  have i3 : ¬ (T : Int) < 0 := by omega
  replace hr := hide hr
  replace hA := hide hA
  replace hS := hide hS
  replace hT := hide hT
  replace hAS := hide hAS
  have E0 := GS.start h ht hb0
  have hz := zero81
  have R0 := hide (Kx.newG h 81 #[.int .i64 0, .int .i64 0])
  have E1 := hide (E0.alloc (.cells #[.int .i64 0, .int .i64 0] 81))
  clear E0 h ht
  go_enter Tryd.func58, Tryd.ntmps58
  have P := hide (getG E1.out.rd 6 (ni := 6) (xi := (A : Int)) (x := A) rfl hA.out rfl (by decide) (by have := hr.out; omega))
  go_wp2_with fail
  refine P.out.mono ?_
  rintro e w2 ⟨rfl, W2, D2⟩
  have E2 := hide (E1.out.get D2 W2)
  have R2 := hide (R0.out.didN D2)
  clear P E1 R0 W2 D2 
  have P := hide (getG E2.out.rd 6 (ni := 6) (xi := (S : Int)) (x := S) rfl hS.out rfl (by decide) (by have := hr.out; omega))
  go_wp2_with fail
  refine P.out.mono ?_
  rintro e w6 ⟨rfl, W6, D6⟩
  have E6 := hide (E2.out.get D6 W6)
  have R6 := hide (R2.out.didN D6)
  clear P E2 R2 W6 D6 
  have X2 := (R6.out.bx.set2 (.int .i64 (A : Int)) (.int .i64 (T : Int))).st2
  have FIN := hide (E6.out.but (but_set2 w6 w.heap.size (.int .i64 (A : Int)) (.int .i64 (T : Int))) (by omega) R6.out.nf)
  obtain ⟨p0, p1, p2, p3, p4⟩ := R6.out.bx.st2
  have z0 := X2.c0
  have z1 := X2.c1
  clear X2
  go_wp2_with fail
  refine bodyPost_ret (v := .tuple #[.agg #[.int .i64 (A : Int), .int .i64 (T : Int)], .int .i64 0]) (by simp [results, Tryd.f58, go_sem, z0, z1]) rfl ?_
  exact ⟨rfl, FIN.out.rd, FIN.out.d⟩
set_option maxRecDepth 100000 in
set_option maxHeartbeats 2000000 in
theorem rwin_no1 {w : World} {base p m : Nat} {v : Value} {l : List Int} (h : Rd w base p v l m) (ht : Tab w) (hb0 : 0 < base) (hr : 8 * l.length < m + 6) :
    Calls Tryd.prog 58 #[.pointer (some ⟨p, 0, none⟩)] w fun e w' => e = .returned (.tuple #[.agg #[.int .i64 0, .int .i64 0], .int .i64 50]) ∧ Did w w' base p nul nul := by
  replace hr := hide hr
  have E0 := GS.start h ht hb0
  have hz := zero81
  have R0 := hide (Kx.newG h 81 #[.int .i64 0, .int .i64 0])
  have E1 := hide (E0.alloc (.cells #[.int .i64 0, .int .i64 0] 81))
  clear E0 h ht
  go_enter Tryd.func58, Tryd.ntmps58
  have P := hide (getG_no E1.out.rd 6 (ni := 6) rfl (by decide) hr.out)
  go_wp2_with fail
  refine P.out.mono ?_
  rintro e w6 ⟨rfl, j, hj⟩
  have E6 := hide (E1.out.drewN j)
  have R6 := hide (R0.out.drewN j)
  rw [← hj] at E6 R6 
  clear P E1 R0 hj 
  have X2 := (R6.out.bx.set2 (.int .i64 0) (.int .i64 0)).st2
  have FIN := hide (E6.out.but (but_set2 w6 w.heap.size (.int .i64 0) (.int .i64 0)) (by omega) R6.out.nf)
  obtain ⟨p0, p1, p2, p3, p4⟩ := R6.out.bx.st2
  have z0 := X2.c0
  have z1 := X2.c1
  clear X2
  go_wp2_with fail
  refine bodyPost_ret (v := .tuple #[.agg #[.int .i64 0, .int .i64 0], .int .i64 50]) (by simp [results, Tryd.f58, go_sem, z0, z1]) rfl ?_
  exact ⟨rfl, FIN.out.d⟩
set_option maxRecDepth 100000 in
set_option maxHeartbeats 2000000 in
theorem rwin_no2 {w : World} {base p m : Nat} {v : Value} {l : List Int} (h : Rd w base p v l m) (ht : Tab w) (hb0 : 0 < base) {A : Nat} (hr : 8 * l.length < m + 12) (hr2 : m + 6 ≤ 8 * l.length) (hA : rd (num l) l.length m 6 = A) :
    Calls Tryd.prog 58 #[.pointer (some ⟨p, 0, none⟩)] w fun e w' => e = .returned (.tuple #[.agg #[.int .i64 0, .int .i64 0], .int .i64 50]) ∧ Did w w' base p nul nul := by
  replace hr := hide hr
  replace hr2 := hide hr2
  replace hA := hide hA
  have E0 := GS.start h ht hb0
  have hz := zero81
  have R0 := hide (Kx.newG h 81 #[.int .i64 0, .int .i64 0])
  have E1 := hide (E0.alloc (.cells #[.int .i64 0, .int .i64 0] 81))
  clear E0 h ht
  go_enter Tryd.func58, Tryd.ntmps58
  have P := hide (getG E1.out.rd 6 (ni := 6) (xi := (A : Int)) (x := A) rfl hA.out rfl (by decide) hr2.out)
  go_wp2_with fail
  refine P.out.mono ?_
  rintro e w2 ⟨rfl, W2, D2⟩
  have E2 := hide (E1.out.get D2 W2)
  have R2 := hide (R0.out.didN D2)
  clear P E1 R0 W2 D2 
  have P := hide (getG_no E2.out.rd 6 (ni := 6) rfl (by decide) (by have := hr.out; omega))
  go_wp2_with fail
  refine P.out.mono ?_
  rintro e w6 ⟨rfl, j, hj⟩
  have E6 := hide (E2.out.drewN j)
  have R6 := hide (R2.out.drewN j)
  rw [← hj] at E6 R6 
  clear P E2 R2 hj 
  have X2 := (R6.out.bx.set2 (.int .i64 0) (.int .i64 0)).st2
  have FIN := hide (E6.out.but (but_set2 w6 w.heap.size (.int .i64 0) (.int .i64 0)) (by omega) R6.out.nf)
  obtain ⟨p0, p1, p2, p3, p4⟩ := R6.out.bx.st2
  have z0 := X2.c0
  have z1 := X2.c1
  clear X2
  go_wp2_with fail
  refine bodyPost_ret (v := .tuple #[.agg #[.int .i64 0, .int .i64 0], .int .i64 50]) (by simp [results, Tryd.f58, go_sem, z0, z1]) rfl ?_
  exact ⟨rfl, FIN.out.d⟩
set_option maxRecDepth 100000 in
set_option maxHeartbeats 2000000 in
theorem rwin_no3 {w : World} {base p m : Nat} {v : Value} {l : List Int} (h : Rd w base p v l m) (ht : Tab w) (hb0 : 0 < base) {A S : Nat} (hr : m + 12 ≤ 8 * l.length) (hA : rd (num l) l.length m 6 = A) (hS : rd (num l) l.length (m + 6) 6 = S) (hAS : 64 < A + (S + 1)) :
    Calls Tryd.prog 58 #[.pointer (some ⟨p, 0, none⟩)] w fun e w' => e = .returned (.tuple #[.agg #[.int .i64 0, .int .i64 0], .int .i64 50]) ∧ Did w w' base p nul nul := by
  have hA6 : A < 64 := by rw [← hA]; exact six_lt _ _ _
  have hS6 : S < 64 := by rw [← hS]; exact six_lt _ _ _
  obtain ⟨T, hT⟩ : ∃ T : Int, (64 : Int) - (A : Int) - ((S : Int) + 1) = T := ⟨_, rfl⟩
  have i1 : (A : Int) ≤ 64 := by omega
  have i2 : (S : Int) ≤ 64 := by omega
  have i3 : T < 0 := by omega
  replace hr := hide hr
  replace hA := hide hA
  replace hS := hide hS
  replace hAS := hide hAS
  replace hA6 := hide hA6
  replace hS6 := hide hS6
  have E0 := GS.start h ht hb0
  have hz := zero81
  have R0 := hide (Kx.newG h 81 #[.int .i64 0, .int .i64 0])
  have E1 := hide (E0.alloc (.cells #[.int .i64 0, .int .i64 0] 81))
  clear E0 h ht
  go_enter Tryd.func58, Tryd.ntmps58
  have P := hide (getG E1.out.rd 6 (ni := 6) (xi := (A : Int)) (x := A) rfl hA.out rfl (by decide) (by have := hr.out; omega))
  go_wp2_with fail
  refine P.out.mono ?_
  rintro e w2 ⟨rfl, W2, D2⟩
  have E2 := hide (E1.out.get D2 W2)
  have R2 := hide (R0.out.didN D2)
  clear P E1 R0 W2 D2 
  have P := hide (getG E2.out.rd 6 (ni := 6) (xi := (S : Int)) (x := S) rfl hS.out rfl (by decide) (by have := hr.out; omega))
  go_wp2_with fail
  refine P.out.mono ?_
  rintro e w6 ⟨rfl, W6, D6⟩
  have E6 := hide (E2.out.get D6 W6)
  have R6 := hide (R2.out.didN D6)
  clear P E2 R2 W6 D6 
  have X2 := (R6.out.bx.set2 (.int .i64 0) (.int .i64 0)).st2
  have FIN := hide (E6.out.but (but_set2 w6 w.heap.size (.int .i64 0) (.int .i64 0)) (by omega) R6.out.nf)
  obtain ⟨p0, p1, p2, p3, p4⟩ := R6.out.bx.st2
  have z0 := X2.c0
  have z1 := X2.c1
  clear X2
  go_wp2_with fail
  refine bodyPost_ret (v := .tuple #[.agg #[.int .i64 0, .int .i64 0], .int .i64 50]) (by simp [results, Tryd.f58, go_sem, z0, z1]) rfl ?_
  exact ⟨rfl, FIN.out.d⟩
theorem rwin_no {w : World} {base p m : Nat} {v : Value} {l : List Int} (h : Rd w base p v l m) (ht : Tab w) (hb0 : 0 < base) (hr : 8 * l.length < m + 12 ∨ 64 < rd (num l) l.length m 6 + (rd (num l) l.length (m + 6) 6 + 1)) :
    Calls Tryd.prog 58 #[.pointer (some ⟨p, 0, none⟩)] w fun e w' => e = .returned (.tuple #[.agg #[.int .i64 0, .int .i64 0], .int .i64 50]) ∧ Did w w' base p nul nul := by
  by_cases h1 : 8 * l.length < m + 6
  · exact rwin_no1 h ht hb0 h1
  · by_cases h2 : 8 * l.length < m + 12
    · exact rwin_no2 h ht hb0 h2 (by omega) rfl
    · exact rwin_no3 h ht hb0 (by omega) rfl rfl (by rcases hr with h | h <;> omega)

set_option maxRecDepth 100000 in
set_option maxHeartbeats 2000000 in
theorem rform0 {w : World} {base p m : Nat} {v : Value} {l : List Int} (h : Rd w base p v l m) (ht : Tab w) (hb0 : 0 < base) {a b : Nat} (hr : 8 * l.length < m + 1) :
    Calls Tryd.prog 54 #[.pointer (some ⟨p, 0, none⟩), .agg #[.int .i64 (a : Int), .int .i64 (b : Int)]] w fun e w' => ∃ x y z : Int, e = .returned (.tuple #[.agg #[.int .i64 x, .int .i64 y, .int .i64 z], .int .i64 50]) ∧ Did w w' base p nul nul := by
  replace hr := hide hr
  have E0 := GS.start h ht hb0
  have hz := zero81
  have S0 := hide ((Kx.newG h 81 #[.int .i64 (a : Int), .int .i64 (b : Int)]).alloc (.cells #[.int .i64 0, .int .i64 0, .int .i64 0] 102))
  have E0' := E0.alloc (.cells #[.int .i64 (a : Int), .int .i64 (b : Int)] 81)
  have R0 := hide (Kx.newG_at E0'.rd (g := w.heap.size + 1) (by simp) 102 #[.int .i64 0, .int .i64 0, .int .i64 0])
  have E1 := hide (E0'.alloc (.cells #[.int .i64 0, .int .i64 0, .int .i64 0] 102))
  clear E0 E0' h ht
  go_enter Tryd.func54, Tryd.ntmps54
  have P := hide (getG_no E1.out.rd 1 (ni := 1) rfl (by decide) hr.out)
  go_wp2_with fail
  refine P.out.mono ?_
  rintro e w6 ⟨rfl, j, hj⟩
  have E6 := hide (E1.out.drewN j)
  have R6 := hide (R0.out.drewN j)
  have S6 := hide (S0.out.drewN j)
  rw [← hj] at E6 R6 S6
  clear P E1 R0 hj S0
  have s0 := S6.out.bx.st2.c0
  have s1 := S6.out.bx.st2.c1
  have X2 := (R6.out.bx.set3 (.int .i64 0) (.int .i64 (a : Int)) (.int .i64 (b : Int))).st3
  have FIN := hide (E6.out.but (but_set3 w6 (w.heap.size + 1) (.int .i64 0) (.int .i64 (a : Int)) (.int .i64 (b : Int))) (by omega) R6.out.nf)
  obtain ⟨p0, p1, p2, p3, p4, p5, p6, p7⟩ := R6.out.bx.st3
  have z0 := X2.c0
  have z1 := X2.c1
  have z2 := X2.c2
  clear X2
  go_wp2_with fail
  refine bodyPost_ret (v := .tuple #[.agg #[.int .i64 0, .int .i64 (a : Int), .int .i64 (b : Int)], .int .i64 50]) (by simp [results, Tryd.f54, go_sem, z0, z1, z2]) rfl ?_
  exact ⟨_, _, _, rfl, FIN.out.d⟩
set_option maxRecDepth 100000 in
set_option maxHeartbeats 2000000 in
theorem rform1 {w : World} {base p m : Nat} {v : Value} {l : List Int} (h : Rd w base p v l m) (ht : Tab w) (hb0 : 0 < base) {a b : Nat} (hr : m + 1 ≤ 8 * l.length) (hx : rd (num l) l.length m 1 = 0) :
    Calls Tryd.prog 54 #[.pointer (some ⟨p, 0, none⟩), .agg #[.int .i64 (a : Int), .int .i64 (b : Int)]] w fun e w' => e = .returned (.tuple #[.agg #[.int .i64 0, .int .i64 (a : Int), .int .i64 (b : Int)], .int .i64 0]) ∧ Rd w' base p v l (m + 1) ∧ Did w w' base p nul nul := by
  replace hr := hide hr
  replace hx := hide hx
  have E0 := GS.start h ht hb0
  have hz := zero81
  have S0 := hide ((Kx.newG h 81 #[.int .i64 (a : Int), .int .i64 (b : Int)]).alloc (.cells #[.int .i64 0, .int .i64 0, .int .i64 0] 102))
  have E0' := E0.alloc (.cells #[.int .i64 (a : Int), .int .i64 (b : Int)] 81)
  have R0 := hide (Kx.newG_at E0'.rd (g := w.heap.size + 1) (by simp) 102 #[.int .i64 0, .int .i64 0, .int .i64 0])
  have E1 := hide (E0'.alloc (.cells #[.int .i64 0, .int .i64 0, .int .i64 0] 102))
  clear E0 E0' h ht
  go_enter Tryd.func54, Tryd.ntmps54
  have P := hide (getG E1.out.rd 1 (ni := 1) (xi := 0) (x := 0) rfl hx.out rfl (by decide) hr.out)
  go_wp2_with fail
  refine P.out.mono ?_
  rintro e w6 ⟨rfl, W6, D6⟩
  have E6 := hide (E1.out.get D6 W6)
  have R6 := hide (R0.out.didN D6)
  have S6 := hide (S0.out.didN D6)
  clear P E1 R0 W6 D6 S0
  have s0 := S6.out.bx.st2.c0
  have s1 := S6.out.bx.st2.c1
  have X2 := (R6.out.bx.set3 (.int .i64 0) (.int .i64 (a : Int)) (.int .i64 (b : Int))).st3
  have FIN := hide (E6.out.but (but_set3 w6 (w.heap.size + 1) (.int .i64 0) (.int .i64 (a : Int)) (.int .i64 (b : Int))) (by omega) R6.out.nf)
  obtain ⟨p0, p1, p2, p3, p4, p5, p6, p7⟩ := R6.out.bx.st3
  have z0 := X2.c0
  have z1 := X2.c1
  have z2 := X2.c2
  clear X2
  go_wp2_with fail
  refine bodyPost_ret (v := .tuple #[.agg #[.int .i64 0, .int .i64 (a : Int), .int .i64 (b : Int)], .int .i64 0]) (by simp [results, Tryd.f54, go_sem, z0, z1, z2]) rfl ?_
  exact ⟨rfl, FIN.out.rd, FIN.out.d⟩
set_option maxRecDepth 100000 in
set_option maxHeartbeats 2000000 in
theorem rform2 {w : World} {base p m : Nat} {v : Value} {l : List Int} (h : Rd w base p v l m) (ht : Tab w) (hb0 : 0 < base) {a b : Nat} (hr : m + 1 ≤ 8 * l.length) (hx : rd (num l) l.length m 1 = 1) (hr2 : 8 * l.length < m + 2) :
    Calls Tryd.prog 54 #[.pointer (some ⟨p, 0, none⟩), .agg #[.int .i64 (a : Int), .int .i64 (b : Int)]] w fun e w' => ∃ x y z : Int, e = .returned (.tuple #[.agg #[.int .i64 x, .int .i64 y, .int .i64 z], .int .i64 50]) ∧ Did w w' base p nul nul := by
  replace hr := hide hr
  replace hx := hide hx
  replace hr2 := hide hr2
  have E0 := GS.start h ht hb0
  have hz := zero81
  have S0 := hide ((Kx.newG h 81 #[.int .i64 (a : Int), .int .i64 (b : Int)]).alloc (.cells #[.int .i64 0, .int .i64 0, .int .i64 0] 102))
  have E0' := E0.alloc (.cells #[.int .i64 (a : Int), .int .i64 (b : Int)] 81)
  have R0 := hide (Kx.newG_at E0'.rd (g := w.heap.size + 1) (by simp) 102 #[.int .i64 0, .int .i64 0, .int .i64 0])
  have E1 := hide (E0'.alloc (.cells #[.int .i64 0, .int .i64 0, .int .i64 0] 102))
  clear E0 E0' h ht
  go_enter Tryd.func54, Tryd.ntmps54
  have P := hide (getG E1.out.rd 1 (ni := 1) (xi := 1) (x := 1) rfl hx.out rfl (by decide) hr.out)
  go_wp2_with fail
  refine P.out.mono ?_
  rintro e w2 ⟨rfl, W2, D2⟩
  have E2 := hide (E1.out.get D2 W2)
  have R2 := hide (R0.out.didN D2)
  have S2 := hide (S0.out.didN D2)
  clear P E1 R0 W2 D2 S0
  have P := hide (getG_no E2.out.rd 1 (ni := 1) rfl (by decide) hr2.out)
  go_wp2_with fail
  refine P.out.mono ?_
  rintro e w6 ⟨rfl, j, hj⟩
  have E6 := hide (E2.out.drewN j)
  have R6 := hide (R2.out.drewN j)
  have S6 := hide (S2.out.drewN j)
  rw [← hj] at E6 R6 S6
  clear P E2 R2 hj S2
  have s0 := S6.out.bx.st2.c0
  have s1 := S6.out.bx.st2.c1
  have X2 := (R6.out.bx.set3 (.int .i64 2) (.int .i64 (a : Int)) (.int .i64 (b : Int))).st3
  have FIN := hide (E6.out.but (but_set3 w6 (w.heap.size + 1) (.int .i64 2) (.int .i64 (a : Int)) (.int .i64 (b : Int))) (by omega) R6.out.nf)
  obtain ⟨p0, p1, p2, p3, p4, p5, p6, p7⟩ := R6.out.bx.st3
  have z0 := X2.c0
  have z1 := X2.c1
  have z2 := X2.c2
  clear X2
  go_wp2_with fail
  refine bodyPost_ret (v := .tuple #[.agg #[.int .i64 2, .int .i64 (a : Int), .int .i64 (b : Int)], .int .i64 50]) (by simp [results, Tryd.f54, go_sem, z0, z1, z2]) rfl ?_
  exact ⟨_, _, _, rfl, FIN.out.d⟩
set_option maxRecDepth 100000 in
set_option maxHeartbeats 2000000 in
theorem rform3 {w : World} {base p m : Nat} {v : Value} {l : List Int} (h : Rd w base p v l m) (ht : Tab w) (hb0 : 0 < base) {a b : Nat} (hr : m + 1 ≤ 8 * l.length) (hx : rd (num l) l.length m 1 = 1) (hr2 : m + 2 ≤ 8 * l.length) (hx2 : rd (num l) l.length (m + 1) 1 = 0) :
    Calls Tryd.prog 54 #[.pointer (some ⟨p, 0, none⟩), .agg #[.int .i64 (a : Int), .int .i64 (b : Int)]] w fun e w' => e = .returned (.tuple #[.agg #[.int .i64 2, .int .i64 (a : Int), .int .i64 (b : Int)], .int .i64 0]) ∧ Rd w' base p v l (m + 2) ∧ Did w w' base p nul nul := by
  replace hr := hide hr
  replace hx := hide hx
  replace hr2 := hide hr2
  replace hx2 := hide hx2
  have E0 := GS.start h ht hb0
  have hz := zero81
  have S0 := hide ((Kx.newG h 81 #[.int .i64 (a : Int), .int .i64 (b : Int)]).alloc (.cells #[.int .i64 0, .int .i64 0, .int .i64 0] 102))
  have E0' := E0.alloc (.cells #[.int .i64 (a : Int), .int .i64 (b : Int)] 81)
  have R0 := hide (Kx.newG_at E0'.rd (g := w.heap.size + 1) (by simp) 102 #[.int .i64 0, .int .i64 0, .int .i64 0])
  have E1 := hide (E0'.alloc (.cells #[.int .i64 0, .int .i64 0, .int .i64 0] 102))
  clear E0 E0' h ht
  go_enter Tryd.func54, Tryd.ntmps54
  have P := hide (getG E1.out.rd 1 (ni := 1) (xi := 1) (x := 1) rfl hx.out rfl (by decide) hr.out)
  go_wp2_with fail
  refine P.out.mono ?_
  rintro e w2 ⟨rfl, W2, D2⟩
  have E2 := hide (E1.out.get D2 W2)
  have R2 := hide (R0.out.didN D2)
  have S2 := hide (S0.out.didN D2)
  clear P E1 R0 W2 D2 S0
  have P := hide (getG E2.out.rd 1 (ni := 1) (xi := 0) (x := 0) rfl hx2.out rfl (by decide) hr2.out)
  go_wp2_with fail
  refine P.out.mono ?_
  rintro e w6 ⟨rfl, W6, D6⟩
  have E6 := hide (E2.out.get D6 W6)
  have R6 := hide (R2.out.didN D6)
  have S6 := hide (S2.out.didN D6)
  clear P E2 R2 W6 D6 S2
  have s0 := S6.out.bx.st2.c0
  have s1 := S6.out.bx.st2.c1
  have X2 := (R6.out.bx.set3 (.int .i64 2) (.int .i64 (a : Int)) (.int .i64 (b : Int))).st3
  have FIN := hide (E6.out.but (but_set3 w6 (w.heap.size + 1) (.int .i64 2) (.int .i64 (a : Int)) (.int .i64 (b : Int))) (by omega) R6.out.nf)
  obtain ⟨p0, p1, p2, p3, p4, p5, p6, p7⟩ := R6.out.bx.st3
  have z0 := X2.c0
  have z1 := X2.c1
  have z2 := X2.c2
  clear X2
  go_wp2_with fail
  refine bodyPost_ret (v := .tuple #[.agg #[.int .i64 2, .int .i64 (a : Int), .int .i64 (b : Int)], .int .i64 0]) (by simp [results, Tryd.f54, go_sem, z0, z1, z2]) rfl ?_
  exact ⟨rfl, FIN.out.rd, FIN.out.d⟩
set_option maxRecDepth 100000 in
set_option maxHeartbeats 2000000 in
theorem rform4 {w : World} {base p m : Nat} {v : Value} {l : List Int} (h : Rd w base p v l m) (ht : Tab w) (hb0 : 0 < base) {a b : Nat} (hr : m + 1 ≤ 8 * l.length) (hx : rd (num l) l.length m 1 = 1) (hr2 : m + 2 ≤ 8 * l.length) (hx2 : rd (num l) l.length (m + 1) 1 = 1) (hr3 : 8 * l.length < m + 14 ∨ 64 < rd (num l) l.length (m + 2) 6 + (rd (num l) l.length (m + 8) 6 + 1)) :
    Calls Tryd.prog 54 #[.pointer (some ⟨p, 0, none⟩), .agg #[.int .i64 (a : Int), .int .i64 (b : Int)]] w fun e w' => ∃ x y z : Int, e = .returned (.tuple #[.agg #[.int .i64 x, .int .i64 y, .int .i64 z], .int .i64 50]) ∧ Did w w' base p nul nul := by
  replace hr := hide hr
  replace hx := hide hx
  replace hr2 := hide hr2
  replace hx2 := hide hx2
  replace hr3 := hide hr3
  replace hb0 := hb0
  have E0 := GS.start h ht hb0
  have hz := zero81
  have S0 := hide ((Kx.newG h 81 #[.int .i64 (a : Int), .int .i64 (b : Int)]).alloc (.cells #[.int .i64 0, .int .i64 0, .int .i64 0] 102))
  have E0' := E0.alloc (.cells #[.int .i64 (a : Int), .int .i64 (b : Int)] 81)
  have R0 := hide (Kx.newG_at E0'.rd (g := w.heap.size + 1) (by simp) 102 #[.int .i64 0, .int .i64 0, .int .i64 0])
  have E1 := hide (E0'.alloc (.cells #[.int .i64 0, .int .i64 0, .int .i64 0] 102))
  clear E0 E0' h ht
  go_enter Tryd.func54, Tryd.ntmps54
  have P := hide (getG E1.out.rd 1 (ni := 1) (xi := 1) (x := 1) rfl hx.out rfl (by decide) hr.out)
  go_wp2_with fail
  refine P.out.mono ?_
  rintro e w2 ⟨rfl, W2, D2⟩
  have E2 := hide (E1.out.get D2 W2)
  have R2 := hide (R0.out.didN D2)
  have S2 := hide (S0.out.didN D2)
  clear P E1 R0 W2 D2 S0
  have P := hide (getG E2.out.rd 1 (ni := 1) (xi := 1) (x := 1) rfl hx2.out rfl (by decide) hr2.out)
  go_wp2_with fail
  refine P.out.mono ?_
  rintro e w3 ⟨rfl, W3, D3⟩
  have E3 := hide (E2.out.get D3 W3)
  have R3 := hide (R2.out.didN D3)
  have S3 := hide (S2.out.didN D3)
  clear P E2 R2 W3 D3 S2
  have P := hide (rwin_no E3.out.rd E3.out.t E3.out.b0 (by rcases hr3.out with h | h; exact .inl (by omega); exact .inr h))
  go_wp2_with fail
  refine P.out.mono ?_
  rintro e w5 ⟨rfl, D5⟩
  have R5 := hide (R3.out.didN D5)
  have DD := hide (E3.out.d.trans D5)
  have bw := hide E3.out.bw
  have X4 := hide (Bx.new w5 81 #[.int .i64 0, .int .i64 0])
  have R6 := hide (R5.out.alloc (.cells #[.int .i64 0, .int .i64 0] 81))
  have x0 := X4.out.st2.c0
  have x1 := X4.out.st2.c1
  have hbb := hide (show base ≤ w5.heap.size by have := E3.out.rd.lt; have := D5.bel.size; omega)
  have bt := but_set3 (w5.alloc (.cells #[.int .i64 0, .int .i64 0] 81)) (w.heap.size + 1) (.int .i64 3) (.int .i64 0) (.int .i64 0)
  have D6 := DD.out.post ((Below.refl _ w5).alloc (Nat.le_refl _) (.cells #[.int .i64 0, .int .i64 0] 81)) hbb.out
  have hbel : Below base (w5.alloc (.cells #[.int .i64 0, .int .i64 0] 81)) _ := bt.below (by simp; have := hbb.out; omega) (fun i hi => by have := bw.out; omega)
  have D7 : Hid (Did w _ base p nul nul) := ⟨D6.bel.trans hbel, D6.but.trans bt (fun i hi e => by omega), D6.own⟩
  clear P E3 R3 S3 D5 DD R5 bt D6 hbel
  have X2 := (R6.out.bx.set3 (.int .i64 3) (.int .i64 0) (.int .i64 0)).st3
  obtain ⟨p0, p1, p2, p3, p4, p5, p6, p7⟩ := R6.out.bx.st3
  have z0 := X2.c0
  have z1 := X2.c1
  have z2 := X2.c2
  clear X2
  go_wp2_with fail
  refine bodyPost_ret (v := .tuple #[.agg #[.int .i64 3, .int .i64 0, .int .i64 0], .int .i64 50]) (by simp [results, Tryd.f54, go_sem, z0, z1, z2]) rfl ?_
  exact ⟨_, _, _, rfl, D7.out⟩
set_option maxRecDepth 100000 in
set_option maxHeartbeats 2000000 in
theorem rform5 {w : World} {base p m : Nat} {v : Value} {l : List Int} (h : Rd w base p v l m) (ht : Tab w) (hb0 : 0 < base) {a b : Nat} {A S : Nat} (hr : m + 1 ≤ 8 * l.length) (hx : rd (num l) l.length m 1 = 1) (hr2 : m + 2 ≤ 8 * l.length) (hx2 : rd (num l) l.length (m + 1) 1 = 1) (hr3 : m + 14 ≤ 8 * l.length) (hA : rd (num l) l.length (m + 2) 6 = A) (hS : rd (num l) l.length (m + 8) 6 = S) (hAS : A + (S + 1) ≤ 64) :
    Calls Tryd.prog 54 #[.pointer (some ⟨p, 0, none⟩), .agg #[.int .i64 (a : Int), .int .i64 (b : Int)]] w fun e w' => e = .returned (.tuple #[.agg #[.int .i64 3, .int .i64 (A : Int), .int .i64 ((64 - A - (S + 1) : Nat) : Int)], .int .i64 0]) ∧ Rd w' base p v l (m + 14) ∧ Did w w' base p nul nul := by
  replace hr := hide hr
  replace hx := hide hx
  replace hr2 := hide hr2
  replace hx2 := hide hx2
  replace hr3 := hide hr3
  replace hA := hide hA
  replace hS := hide hS
  replace hAS := hide hAS
  obtain ⟨T, hT⟩ : ∃ T, 64 - A - (S + 1) = T := ⟨_, rfl⟩
  rw [hT]
  have E0 := GS.start h ht hb0
  have hz := zero81
  have S0 := hide ((Kx.newG h 81 #[.int .i64 (a : Int), .int .i64 (b : Int)]).alloc (.cells #[.int .i64 0, .int .i64 0, .int .i64 0] 102))
  have E0' := E0.alloc (.cells #[.int .i64 (a : Int), .int .i64 (b : Int)] 81)
  have R0 := hide (Kx.newG_at E0'.rd (g := w.heap.size + 1) (by simp) 102 #[.int .i64 0, .int .i64 0, .int .i64 0])
  have E1 := hide (E0'.alloc (.cells #[.int .i64 0, .int .i64 0, .int .i64 0] 102))
  clear E0 E0' h ht
  go_enter Tryd.func54, Tryd.ntmps54
  have P := hide (getG E1.out.rd 1 (ni := 1) (xi := 1) (x := 1) rfl hx.out rfl (by decide) hr.out)
  go_wp2_with fail
  refine P.out.mono ?_
  rintro e w2 ⟨rfl, W2, D2⟩
  have E2 := hide (E1.out.get D2 W2)
  have R2 := hide (R0.out.didN D2)
  have S2 := hide (S0.out.didN D2)
  clear P E1 R0 W2 D2 S0
  have P := hide (getG E2.out.rd 1 (ni := 1) (xi := 1) (x := 1) rfl hx2.out rfl (by decide) hr2.out)
  go_wp2_with fail
  refine P.out.mono ?_
  rintro e w3 ⟨rfl, W3, D3⟩
  have E3 := hide (E2.out.get D3 W3)
  have R3 := hide (R2.out.didN D3)
  have S3 := hide (S2.out.didN D3)
  clear P E2 R2 W3 D3 S2
  have P := hide (rwin_ok E3.out.rd E3.out.t E3.out.b0 (A := A) (S := S) (by have := hr3.out; omega) hA.out hS.out hAS.out)
  rw [hT] at P
  replace hT := hide hT
  go_wp2_with fail
  refine P.out.mono ?_
  rintro e w5 ⟨rfl, W5, D5⟩
  have E5 := E3.out.get D5 W5
  have E6 := hide (E5.alloc (.cells #[.int .i64 (A : Int), .int .i64 (T : Int)] 81))
  have X4 := hide (Bx.new w5 81 #[.int .i64 (A : Int), .int .i64 (T : Int)])
  have R6 := hide ((R3.out.didN D5).alloc (.cells #[.int .i64 (A : Int), .int .i64 (T : Int)] 81))
  have x0 := X4.out.st2.c0
  have x1 := X4.out.st2.c1
  clear P E3 R3 S3 W5 D5 E5
  have X2 := (R6.out.bx.set3 (.int .i64 3) (.int .i64 (A : Int)) (.int .i64 (T : Int))).st3
  have FIN := hide (E6.out.but (but_set3 (w5.alloc (.cells #[.int .i64 (A : Int), .int .i64 (T : Int)] 81)) (w.heap.size + 1) (.int .i64 3) (.int .i64 (A : Int)) (.int .i64 (T : Int))) (by omega) R6.out.nf)
  obtain ⟨p0, p1, p2, p3, p4, p5, p6, p7⟩ := R6.out.bx.st3
  have z0 := X2.c0
  have z1 := X2.c1
  have z2 := X2.c2
  clear X2
  go_wp2_with fail
  refine bodyPost_ret (v := .tuple #[.agg #[.int .i64 3, .int .i64 (A : Int), .int .i64 (T : Int)], .int .i64 0]) (by simp [results, Tryd.f54, go_sem, z0, z1, z2]) rfl ?_
  exact ⟨rfl, FIN.out.rd, FIN.out.d⟩

/-- readForm, as rF tells it. -/
theorem rform_ok {w : World} {base p m : Nat} {v : Value} {l : List Int} (h : Rd w base p v l m) (ht : Tab w) (hb0 : 0 < base) {a b mk fa fb m' : Nat} (hF : rF a b (num l) l.length m = some (mk, fa, fb, m')) :
    Calls Tryd.prog 54 #[.pointer (some ⟨p, 0, none⟩), .agg #[.int .i64 (a : Int), .int .i64 (b : Int)]] w fun e w' => e = .returned (.tuple #[.agg #[.int .i64 (mk : Int), .int .i64 (fa : Int), .int .i64 (fb : Int)], .int .i64 0]) ∧ Rd w' base p v l m' ∧ Did w w' base p nul nul := by
  unfold rF at hF
  have c0 := bit_lt (num l) l.length m
  have c1 := bit_lt (num l) l.length (m + 1)
  split at hF
  · cases hF
  split at hF
  · cases hF
    exact rform1 h ht hb0 (by omega) (by assumption)
  split at hF
  · cases hF
  split at hF
  · cases hF
    exact rform3 h ht hb0 (by omega) (by omega) (by omega) (by assumption)
  split at hF
  · cases hF
  split at hF
  · cases hF
  cases hF
  exact rform5 h ht hb0 (by omega) (by omega) (by omega) (by omega) (by omega) rfl rfl (by omega)
theorem rform_no {w : World} {base p m : Nat} {v : Value} {l : List Int} (h : Rd w base p v l m) (ht : Tab w) (hb0 : 0 < base) {a b : Nat} (hF : rF a b (num l) l.length m = none) :
    Calls Tryd.prog 54 #[.pointer (some ⟨p, 0, none⟩), .agg #[.int .i64 (a : Int), .int .i64 (b : Int)]] w fun e w' => ∃ x y z : Int, e = .returned (.tuple #[.agg #[.int .i64 x, .int .i64 y, .int .i64 z], .int .i64 50]) ∧ Did w w' base p nul nul := by
  unfold rF at hF
  have c0 := bit_lt (num l) l.length m
  have c1 := bit_lt (num l) l.length (m + 1)
  split at hF
  · exact rform0 h ht hb0 (by assumption)
  split at hF
  · cases hF
  split at hF
  · exact rform2 h ht hb0 (by omega) (by omega) (by assumption)
  split at hF
  · cases hF
  split at hF
  · exact rform4 h ht hb0 (by omega) (by omega) (by omega) (by omega) (.inl (by assumption))
  split at hF
  · exact rform4 h ht hb0 (by omega) (by omega) (by omega) (by omega) (.inr (by assumption))
  cases hF
end Go.Proofs.YtmddkinecplooaaDoor
