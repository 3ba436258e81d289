/-
  Values: forms read.
-/
import Derived.Test.YtmjjedbdedemcaaGreatDoorXH
import Derived.Test.YtmjjedbdedemcaaGreatDoorSC
namespace Go.Proofs.YtmjjedbdedemcaaGreatDoor
open Go.RowKit
set_option linter.unusedVariables false

set_option linter.unusedSimpArgs false

theorem held102 : Tryz.prog.stoodInHeld 153 = false := by kernel_rfl
theorem under102 : Tryz.prog.underlying 153 = some (.struct (Tryz.prog.fieldsOf 153)) := by kernel_rfl
theorem eqIn81 (d : Nat) (x1 x2 y1 y2 : Int) (w : World) : (Op.equalIn (d + 3) 116 (.agg #[.int .i64 x1, .int .i64 x2]) (.agg #[.int .i64 y1, .int .i64 y2])).run Tryz.prog w = .ok (decide (x1 = y1 ∧ x2 = y2)) w := by
  rw [run_equalIn_agg w _ 116 _ _ under81 held81]
  have hs : ∀ w, (sizeOf 3).run Tryz.prog w = .ok 1 w := fun w => by kernel_rfl
  have hu := Tryz.underlying3
  rw [show (Tryz.prog.fieldsOf 116).toList = _ from rfl]
  simp [Op.eqFields, go_sem]
  by_cases h1 : x1 = y1 <;> by_cases h2 : x2 = y2 <;> simp [h1, h2]
theorem run_neq102 (x0 x1 x2 y0 y1 y2 : Int) (w : World) : (binOp .neq 153 (.agg #[.int .i64 x0, .int .i64 x1, .int .i64 x2]) (.agg #[.int .i64 y0, .int .i64 y1, .int .i64 y2])).run Tryz.prog w = .ok (.bool (!decide (x0 = y0 ∧ x1 = y1 ∧ x2 = y2))) w := by
  rw [run_neq_struct, run_equalIn_agg w 9999 153 _ _ under102 held102]
  have hs : ∀ w, (sizeOf 3).run Tryz.prog w = .ok 1 w := fun w => by kernel_rfl
  have hs3 : ∀ w, (sizeOf 116).run Tryz.prog w = .ok 2 w := fun w => by kernel_rfl
  have hu := Tryz.underlying3
  have h81 := fun w => eqIn81 9994 x1 x2 y1 y2 w
  rw [show (Tryz.prog.fieldsOf 153).toList = _ from rfl]
  simp [Op.eqFields, go_sem]
  by_cases h0 : x0 = y0 <;> by_cases h1 : x1 = y1 <;> by_cases h2 : x2 = y2 <;> simp [h0, h1, h2]

/-- The form that is read at m: its mark, its window, the place behind it. -/
def rF (a b V N m : Nat) : Option (Nat × Nat × Nat × Nat) :=
  if 8 * N < m + 1 then none else if rd V N m 1 = 0 then some (0, a, b, m + 1) else
  if 8 * N < m + 2 then none else if rd V N (m + 1) 1 = 0 then some (2, a, b, m + 2) else
  if 8 * N < m + 14 then none else if 64 < rd V N (m + 2) 6 + (rd V N (m + 8) 6 + 1) then none else some (3, rd V N (m + 2) 6, 64 - rd V N (m + 2) 6 - (rd V N (m + 8) 6 + 1), m + 14)
def fS (mk fa fb : Nat) : Nat := if mk = 0 then 0 else 64 - fa - fb
/-- The difference that is read behind a form. -/
def rT (a b V N mk fa fb m : Nat) : Option Nat :=
  if 8 * N < m + fS mk fa fb then none else
  if dM a b (rd V N m (fS mk fa fb) * 2 ^ fb) = mk ∧ dA a b (rd V N m (fS mk fa fb) * 2 ^ fb) = fa ∧ dB a b (rd V N m (fS mk fa fb) * 2 ^ fb) = fb then some (rd V N m (fS mk fa fb) * 2 ^ fb) else none
theorem rX_eq {a b V N m : Nat} (hw : OkW a b) : rX a b V N m = (rF a b V N m).bind (fun q => (rT a b V N q.1 q.2.1 q.2.2.1 q.2.2.2).map (fun x => (x, q.2.2.2 + fS q.1 q.2.1 q.2.2.1 - m, q.2.1, q.2.2.1))) := by
  unfold rX rF
  by_cases h1 : 8 * N < m + 1
  · rw [if_pos h1, if_pos h1]; rfl
  rw [if_neg h1, if_neg h1]
  by_cases h2 : rd V N m 1 = 0
  · rw [if_pos h2, if_pos h2]
    simp only [Option.bind_some, rT, fS, if_pos, rd_zero, Nat.zero_mul]
    rw [if_neg (by omega), if_pos ⟨by simp [dM], by simp [dA], by simp [dB]⟩]
    simp only [Option.map_some, Option.some.injEq, Prod.mk.injEq, true_and, and_true]
    omega
  rw [if_neg h2, if_neg h2]
  by_cases h3 : 8 * N < m + 2
  · rw [if_pos h3, if_pos h3]; rfl
  rw [if_neg h3, if_neg h3]
  by_cases h4 : rd V N (m + 1) 1 = 0
  · rw [if_pos h4, if_pos h4]
    simp only [Option.bind_some]
    have e : fS 2 a b = 64 - a - b := by simp [fS]
    unfold rT
    rw [e]
    cases hI : rI a b V N m with
    | none =>
      unfold rI at hI
      split at hI
      · rename_i h5
        rw [if_pos (by omega)]; rfl
      · split at hI
        · rename_i h5 h6
          rw [if_neg (by omega), h6, if_neg (by intro h; have := h.1; simp [dM] at this)]; rfl
        · cases hI
    | some x =>
      obtain ⟨i1, i2, i3, i4, i5, i6⟩ := rI_ok hw hI
      rw [if_neg (by omega), ← i2, if_pos ⟨by simp [dM, i3, i5], by simp [dA, i3, i5], by simp [dB, i3, i5]⟩]
      simp only [Option.map_some, Option.some.injEq, Prod.mk.injEq, true_and, and_true]
      omega
  rw [if_neg h4, if_neg h4]
  by_cases h5 : 8 * N < m + 14
  · rw [if_pos h5, if_pos h5]; rfl
  rw [if_neg h5, if_neg h5]
  unfold rO
  by_cases h6 : 64 < rd V N (m + 2) 6 + (rd V N (m + 8) 6 + 1)
  · rw [if_pos h6, if_pos h6]; rfl
  rw [if_neg h6, if_neg h6]
  simp only [Option.bind_some]
  have e : fS 3 (rd V N (m + 2) 6) (64 - rd V N (m + 2) 6 - (rd V N (m + 8) 6 + 1)) = rd V N (m + 8) 6 + 1 := by simp only [fS]; rw [if_neg (by decide)]; omega
  unfold rT
  rw [e]
  generalize rd V N (m + 2) 6 = A at *
  generalize rd V N (m + 8) 6 + 1 = S at *
  by_cases h7 : 8 * N < m + 14 + S
  · rw [if_pos h7, if_pos h7]; rfl
  rw [if_neg h7, if_neg h7]
  generalize rd V N (m + 14) S * 2 ^ (64 - A - S) = x at *
  by_cases h8 : x ≠ 0 ∧ lz x = A ∧ tz x = 64 - A - S ∧ ¬ inW a b x
  · obtain ⟨k1, k2, k3, k4⟩ := h8
    rw [if_pos ⟨k1, k2, k3, k4⟩, if_pos ⟨by simp [dM, k1, k4], by simp [dA, k1, k4, k2], by simp [dB, k1, k4, k3]⟩]
    simp only [Option.map_some, Option.some.injEq, Prod.mk.injEq, true_and, and_true]
    omega
  · rw [if_neg h8, if_neg]
    · rfl
    · rintro ⟨k1, k2, k3⟩
      apply h8
      unfold dM at k1
      by_cases x0 : x = 0
      · rw [if_pos x0] at k1; omega
      · rw [if_neg x0] at k1
        by_cases hin : inW a b x
        · rw [if_pos hin] at k1; omega
        · unfold dA at k2
          unfold dB at k3
          rw [if_neg x0, if_neg hin] at k2 k3
          exact ⟨x0, k2, k3, hin⟩

/-- A value that has no block: what turns a reader's block alone turns 'fp p nul'. -/
abbrev nul : Value := .slice none 0 0
theorem fp_nul {p k : Nat} (h : fp p nul k) : k = p := by
  rcases h with h | h
  · exact h
  · cases h
theorem nf_nul {p g : Nat} {v : Value} (h : ¬ fp p v g) : ¬ fp p nul g := fun hf => h (.inl (fp_nul hf))
theorem dis_nul {p q : Nat} {v u : Value} (h : Dis p v q u) : Dis p nul q u := fun k hk => h k (.inl (fp_nul hk))
theorem Kx.didN {w w' : World} {p g base : Nat} {v : Value} {t : TypeId} {xs : Array Value} (h : Kx w p v g t xs) (d : Did w w' base p nul nul) : Kx w' p v g t xs := ⟨h.bx.did d (nf_nul h.nf), h.nf⟩

/-- A reader on its way from w0 to w. -/
structure GSX (w0 w : World) (base p : Nat) (v : Value) (l : List Int) (m : Nat) : Prop where
  rd : Rd w base p v l m
  d : Did w0 w base p nul nul
  t : TabX w
  b0 : 2 < base
  bw : base ≤ w0.heap.size
section
variable {w0 w w' : World} {base p m m' : Nat} {v : Value} {l : List Int}
theorem Rd.not (h : Rd w base p v l m) {g : Nat} (hg : w.heap.size ≤ g) : ¬ fp p v g := fun hf => by
  have := (h.1.fplt g hf).2
  omega
theorem Rd.drew (h : Rd w base p v l m) : Rd w.drew base p v l m := ⟨h.1.drew, h.2⟩
theorem Kx.newG (h : Rd w base p v l m) (t : TypeId) (xs : Array Value) : Kx (w.alloc (.cells xs t)) p v w.heap.size t xs := ⟨Bx.new w t xs, h.not (Nat.le_refl _)⟩
theorem Kx.newG_at (h : Rd w base p v l m) {g : Nat} (hg : g = w.heap.size) (t : TypeId) (xs : Array Value) : Kx (w.alloc (.cells xs t)) p v g t xs := by subst hg; exact Kx.newG h t xs
theorem GSX.start (h : Rd w base p v l m) (ht : TabX w) (hb : 2 < base) : GSX w w base p v l m := ⟨h, Did.refl _ _ _ _, ht, hb, by have := h.lt; omega⟩
theorem GSX.below (h : GSX w0 w base p v l m) (hb : Below w.heap.size w w') : GSX w0 w' base p v l m :=
  ⟨h.rd.below hb (Nat.le_refl _), h.d.post hb (by have := h.rd.lt; omega), h.t.below hb, h.b0, h.bw⟩
theorem GSX.alloc (h : GSX w0 w base p v l m) (o : Obj) : GSX w0 (w.alloc o) base p v l m := h.below ((Below.refl _ _).alloc (Nat.le_refl _) _)
theorem GSX.get (h : GSX w0 w base p v l m) (d : Did w w' base p nul nul) (hr : Rd w' base p v l m') : GSX w0 w' base p v l m' := ⟨hr, h.d.trans d, h.t.did d h.b0, h.b0, h.bw⟩
theorem GSX.drew (h : GSX w0 w base p v l m) : GSX w0 w.drew base p v l m := ⟨h.rd.drew, h.d.drew, h.t, h.b0, h.bw⟩
theorem GSX.drewN (h : GSX w0 w base p v l m) (j : Nat) : GSX w0 (w.drewN j) base p v l m := ⟨h.rd.drewN j, h.d.drewN j, h.t, h.b0, h.bw⟩
theorem GSX.but (h : GSX w0 w base p v l m) {g : Nat} (hb : But (fun i => i = g) w w') (hg : w0.heap.size ≤ g) (hn : ¬ fp p v g) : GSX w0 w' base p v l m := by
  have hbw := h.bw
  have hlt := h.rd.lt
  have hbel : Below base w w' := hb.below (by omega) (fun i hi => by omega)
  exact ⟨⟨h.rd.1.kept hb (fun i hi => by rw [hi]; exact hn), h.rd.2⟩, ⟨h.d.bel.trans hbel, h.d.but.trans hb (fun i hi e => by omega), h.d.own⟩, h.t.kept hbel h.b0, h.b0, h.bw⟩
end
theorem getG {w : World} {base p n0 : Nat} {v : Value} {l : List Int} (h : Rd w base p v l n0) (n : Nat) {ni xi : Int} {x : Nat} (e1 : ni = (n : Int)) (hx : rd (num l) l.length n0 n = x) (e2 : (x : Int) = xi) (hn : n ≤ 64) (hroom : n0 + n ≤ 8 * l.length) :
    Calls Tryz.prog 80 #[.pointer (some ⟨p, 0, none⟩), .int .i64 ni] w fun e w' => e = .returned (.tuple #[.int .u64 xi, .int .i64 0]) ∧ Rd w' base p v l (n0 + n) ∧ Did w w' base p nul nul := by
  subst e1 e2 hx
  refine (get_ok h.1 h.2.1 h.2.2.1 n hn hroom).mono ?_
  rintro e w' ⟨he, O', B'⟩
  exact ⟨he, ⟨O', h.2.1, h.2.2.1, hroom⟩, h.1.belR B', B'.mono (fun k hk => .inl hk), fun i _ h => h⟩
theorem getG_no {w : World} {base p n0 : Nat} {v : Value} {l : List Int} (h : Rd w base p v l n0) (n : Nat) {ni : Int} (e1 : ni = (n : Int)) (hn : n ≤ 64) (hroom : 8 * l.length < n0 + n) :
    Calls Tryz.prog 80 #[.pointer (some ⟨p, 0, none⟩), .int .i64 ni] w fun e w' => e = .returned (.tuple #[.int .u64 0, .int .i64 50]) ∧ ∃ k, w' = w.drewN k := by
  subst e1
  exact getRdBits h n hn hroom
set_option linter.unusedSimpArgs false

set_option maxRecDepth 100000 in
set_option maxHeartbeats 2000000 in
theorem rwin_ok {w : World} {base p m : Nat} {v : Value} {l : List Int} (h : Rd w base p v l m) (ht : TabX w) (hb0 : 2 < base) {A S : Nat} (hr : m + 12 ≤ 8 * l.length) (hA : rd (num l) l.length m 6 = A) (hS : rd (num l) l.length (m + 6) 6 = S) (hAS : A + (S + 1) ≤ 64) :
    Calls Tryz.prog 113 #[.pointer (some ⟨p, 0, none⟩)] w fun e w' => e = .returned (.tuple #[.agg #[.int .i64 (A : Int), .int .i64 ((64 - A - (S + 1) : Nat) : Int)], .int .i64 0]) ∧ Rd w' base p v l (m + 12) ∧ Did w w' base p nul nul := by
  obtain ⟨T, hT⟩ : ∃ T, 64 - A - (S + 1) = T := ⟨_, rfl⟩
  rw [hT]
  have e1 : (64 : Int) - (A : Int) - ((S : Int) + 1) = (T : Int) := by omega
  have i1 : (A : Int) ≤ 64 := by omega
  have i2 : (S : Int) ≤ 64 := by omega
  have i3 : ¬ (T : Int) < 0 := by omega
  replace hr := hide hr
  replace hA := hide hA
  replace hS := hide hS
  replace hT := hide hT
  replace hAS := hide hAS
  have E0 := GSX.start h ht hb0
  have hz := zero81
  have R0 := hide (Kx.newG h 116 #[.int .i64 0, .int .i64 0])
  have E1 := hide (E0.alloc (.cells #[.int .i64 0, .int .i64 0] 116))
  clear E0 h ht
  go_enter Tryz.func113, Tryz.ntmps113
  have P := hide (getG E1.out.rd 6 (ni := 6) (xi := (A : Int)) (x := A) rfl hA.out rfl (by decide) (by have := hr.out; omega))
  go_wp2_with fail
  refine P.out.mono ?_
  rintro e w2 ⟨rfl, W2, D2⟩
  have E2 := hide (E1.out.get D2 W2)
  have R2 := hide (R0.out.didN D2)
  clear P E1 R0 W2 D2 
  have P := hide (getG E2.out.rd 6 (ni := 6) (xi := (S : Int)) (x := S) rfl hS.out rfl (by decide) (by have := hr.out; omega))
  go_wp2_with fail
  refine P.out.mono ?_
  rintro e w6 ⟨rfl, W6, D6⟩
  have E6 := hide (E2.out.get D6 W6)
  have R6 := hide (R2.out.didN D6)
  clear P E2 R2 W6 D6 
  have X2 := (R6.out.bx.set2 (.int .i64 (A : Int)) (.int .i64 (T : Int))).st2
  have FIN := hide (E6.out.but (but_set2 w6 w.heap.size (.int .i64 (A : Int)) (.int .i64 (T : Int))) (by omega) R6.out.nf)
  obtain ⟨p0, p1, p2, p3, p4⟩ := R6.out.bx.st2
  have z0 := X2.c0
  have z1 := X2.c1
  clear X2
  go_wp2_with fail
  refine bodyPost_ret (v := .tuple #[.agg #[.int .i64 (A : Int), .int .i64 (T : Int)], .int .i64 0]) (by simp [results, Tryz.f113, go_sem, z0, z1]) rfl ?_
  exact ⟨rfl, FIN.out.rd, FIN.out.d⟩
set_option maxRecDepth 100000 in
set_option maxHeartbeats 2000000 in
theorem rwin_no1 {w : World} {base p m : Nat} {v : Value} {l : List Int} (h : Rd w base p v l m) (ht : TabX w) (hb0 : 2 < base) (hr : 8 * l.length < m + 6) :
    Calls Tryz.prog 113 #[.pointer (some ⟨p, 0, none⟩)] w fun e w' => e = .returned (.tuple #[.agg #[.int .i64 0, .int .i64 0], .int .i64 50]) ∧ Did w w' base p nul nul := by
  replace hr := hide hr
  have E0 := GSX.start h ht hb0
  have hz := zero81
  have R0 := hide (Kx.newG h 116 #[.int .i64 0, .int .i64 0])
  have E1 := hide (E0.alloc (.cells #[.int .i64 0, .int .i64 0] 116))
  clear E0 h ht
  go_enter Tryz.func113, Tryz.ntmps113
  have P := hide (getG_no E1.out.rd 6 (ni := 6) rfl (by decide) hr.out)
  go_wp2_with fail
  refine P.out.mono ?_
  rintro e w6 ⟨rfl, j, hj⟩
  have E6 := hide (E1.out.drewN j)
  have R6 := hide (R0.out.drewN j)
  rw [← hj] at E6 R6 
  clear P E1 R0 hj 
  have X2 := (R6.out.bx.set2 (.int .i64 0) (.int .i64 0)).st2
  have FIN := hide (E6.out.but (but_set2 w6 w.heap.size (.int .i64 0) (.int .i64 0)) (by omega) R6.out.nf)
  obtain ⟨p0, p1, p2, p3, p4⟩ := R6.out.bx.st2
  have z0 := X2.c0
  have z1 := X2.c1
  clear X2
  go_wp2_with fail
  refine bodyPost_ret (v := .tuple #[.agg #[.int .i64 0, .int .i64 0], .int .i64 50]) (by simp [results, Tryz.f113, go_sem, z0, z1]) rfl ?_
  exact ⟨rfl, FIN.out.d⟩
set_option maxRecDepth 100000 in
set_option maxHeartbeats 2000000 in
theorem rwin_no2 {w : World} {base p m : Nat} {v : Value} {l : List Int} (h : Rd w base p v l m) (ht : TabX w) (hb0 : 2 < base) {A : Nat} (hr : 8 * l.length < m + 12) (hr2 : m + 6 ≤ 8 * l.length) (hA : rd (num l) l.length m 6 = A) :
    Calls Tryz.prog 113 #[.pointer (some ⟨p, 0, none⟩)] w fun e w' => e = .returned (.tuple #[.agg #[.int .i64 0, .int .i64 0], .int .i64 50]) ∧ Did w w' base p nul nul := by
  replace hr := hide hr
  replace hr2 := hide hr2
  replace hA := hide hA
  have E0 := GSX.start h ht hb0
  have hz := zero81
  have R0 := hide (Kx.newG h 116 #[.int .i64 0, .int .i64 0])
  have E1 := hide (E0.alloc (.cells #[.int .i64 0, .int .i64 0] 116))
  clear E0 h ht
  go_enter Tryz.func113, Tryz.ntmps113
  have P := hide (getG E1.out.rd 6 (ni := 6) (xi := (A : Int)) (x := A) rfl hA.out rfl (by decide) hr2.out)
  go_wp2_with fail
  refine P.out.mono ?_
  rintro e w2 ⟨rfl, W2, D2⟩
  have E2 := hide (E1.out.get D2 W2)
  have R2 := hide (R0.out.didN D2)
  clear P E1 R0 W2 D2 
  have P := hide (getG_no E2.out.rd 6 (ni := 6) rfl (by decide) (by have := hr.out; omega))
  go_wp2_with fail
  refine P.out.mono ?_
  rintro e w6 ⟨rfl, j, hj⟩
  have E6 := hide (E2.out.drewN j)
  have R6 := hide (R2.out.drewN j)
  rw [← hj] at E6 R6 
  clear P E2 R2 hj 
  have X2 := (R6.out.bx.set2 (.int .i64 0) (.int .i64 0)).st2
  have FIN := hide (E6.out.but (but_set2 w6 w.heap.size (.int .i64 0) (.int .i64 0)) (by omega) R6.out.nf)
  obtain ⟨p0, p1, p2, p3, p4⟩ := R6.out.bx.st2
  have z0 := X2.c0
  have z1 := X2.c1
  clear X2
  go_wp2_with fail
  refine bodyPost_ret (v := .tuple #[.agg #[.int .i64 0, .int .i64 0], .int .i64 50]) (by simp [results, Tryz.f113, go_sem, z0, z1]) rfl ?_
  exact ⟨rfl, FIN.out.d⟩
set_option maxRecDepth 100000 in
set_option maxHeartbeats 2000000 in
theorem rwin_no3 {w : World} {base p m : Nat} {v : Value} {l : List Int} (h : Rd w base p v l m) (ht : TabX w) (hb0 : 2 < base) {A S : Nat} (hr : m + 12 ≤ 8 * l.length) (hA : rd (num l) l.length m 6 = A) (hS : rd (num l) l.length (m + 6) 6 = S) (hAS : 64 < A + (S + 1)) :
    Calls Tryz.prog 113 #[.pointer (some ⟨p, 0, none⟩)] w fun e w' => e = .returned (.tuple #[.agg #[.int .i64 0, .int .i64 0], .int .i64 50]) ∧ Did w w' base p nul nul := by
  have hA6 : A < 64 := by rw [← hA]; exact six_lt _ _ _
  have hS6 : S < 64 := by rw [← hS]; exact six_lt _ _ _
  obtain ⟨T, hT⟩ : ∃ T : Int, (64 : Int) - (A : Int) - ((S : Int) + 1) = T := ⟨_, rfl⟩
  have i1 : (A : Int) ≤ 64 := by omega
  have i2 : (S : Int) ≤ 64 := by omega
  have i3 : T < 0 := by omega
  replace hr := hide hr
  replace hA := hide hA
  replace hS := hide hS
  replace hAS := hide hAS
  replace hA6 := hide hA6
  replace hS6 := hide hS6
  have E0 := GSX.start h ht hb0
  have hz := zero81
  have R0 := hide (Kx.newG h 116 #[.int .i64 0, .int .i64 0])
  have E1 := hide (E0.alloc (.cells #[.int .i64 0, .int .i64 0] 116))
  clear E0 h ht
  go_enter Tryz.func113, Tryz.ntmps113
  have P := hide (getG E1.out.rd 6 (ni := 6) (xi := (A : Int)) (x := A) rfl hA.out rfl (by decide) (by have := hr.out; omega))
  go_wp2_with fail
  refine P.out.mono ?_
  rintro e w2 ⟨rfl, W2, D2⟩
  have E2 := hide (E1.out.get D2 W2)
  have R2 := hide (R0.out.didN D2)
  clear P E1 R0 W2 D2 
  have P := hide (getG E2.out.rd 6 (ni := 6) (xi := (S : Int)) (x := S) rfl hS.out rfl (by decide) (by have := hr.out; omega))
  go_wp2_with fail
  refine P.out.mono ?_
  rintro e w6 ⟨rfl, W6, D6⟩
  have E6 := hide (E2.out.get D6 W6)
  have R6 := hide (R2.out.didN D6)
  clear P E2 R2 W6 D6 
  have X2 := (R6.out.bx.set2 (.int .i64 0) (.int .i64 0)).st2
  have FIN := hide (E6.out.but (but_set2 w6 w.heap.size (.int .i64 0) (.int .i64 0)) (by omega) R6.out.nf)
  obtain ⟨p0, p1, p2, p3, p4⟩ := R6.out.bx.st2
  have z0 := X2.c0
  have z1 := X2.c1
  clear X2
  go_wp2_with fail
  refine bodyPost_ret (v := .tuple #[.agg #[.int .i64 0, .int .i64 0], .int .i64 50]) (by simp [results, Tryz.f113, go_sem, z0, z1]) rfl ?_
  exact ⟨rfl, FIN.out.d⟩
theorem rwin_no {w : World} {base p m : Nat} {v : Value} {l : List Int} (h : Rd w base p v l m) (ht : TabX w) (hb0 : 2 < base) (hr : 8 * l.length < m + 12 ∨ 64 < rd (num l) l.length m 6 + (rd (num l) l.length (m + 6) 6 + 1)) :
    Calls Tryz.prog 113 #[.pointer (some ⟨p, 0, none⟩)] w fun e w' => e = .returned (.tuple #[.agg #[.int .i64 0, .int .i64 0], .int .i64 50]) ∧ Did w w' base p nul nul := by
  by_cases h1 : 8 * l.length < m + 6
  · exact rwin_no1 h ht hb0 h1
  · by_cases h2 : 8 * l.length < m + 12
    · exact rwin_no2 h ht hb0 h2 (by omega) rfl
    · exact rwin_no3 h ht hb0 (by omega) rfl rfl (by rcases hr with h | h <;> omega)

set_option maxRecDepth 100000 in
set_option maxHeartbeats 2000000 in
theorem rform0 {w : World} {base p m : Nat} {v : Value} {l : List Int} (h : Rd w base p v l m) (ht : TabX w) (hb0 : 2 < base) {a b : Nat} (hr : 8 * l.length < m + 1) :
    Calls Tryz.prog 110 #[.pointer (some ⟨p, 0, none⟩), .agg #[.int .i64 (a : Int), .int .i64 (b : Int)]] w fun e w' => ∃ x y z : Int, e = .returned (.tuple #[.agg #[.int .i64 x, .int .i64 y, .int .i64 z], .int .i64 50]) ∧ Did w w' base p nul nul := by
  replace hr := hide hr
  have E0 := GSX.start h ht hb0
  have hz := zero81
  have S0 := hide ((Kx.newG h 116 #[.int .i64 (a : Int), .int .i64 (b : Int)]).alloc (.cells #[.int .i64 0, .int .i64 0, .int .i64 0] 153))
  have E0' := E0.alloc (.cells #[.int .i64 (a : Int), .int .i64 (b : Int)] 116)
  have R0 := hide (Kx.newG_at E0'.rd (g := w.heap.size + 1) (by simp) 153 #[.int .i64 0, .int .i64 0, .int .i64 0])
  have E1 := hide (E0'.alloc (.cells #[.int .i64 0, .int .i64 0, .int .i64 0] 153))
  clear E0 E0' h ht
  go_enter Tryz.func110, Tryz.ntmps110
  have P := hide (getG_no E1.out.rd 1 (ni := 1) rfl (by decide) hr.out)
  go_wp2_with fail
  refine P.out.mono ?_
  rintro e w6 ⟨rfl, j, hj⟩
  have E6 := hide (E1.out.drewN j)
  have R6 := hide (R0.out.drewN j)
  have S6 := hide (S0.out.drewN j)
  rw [← hj] at E6 R6 S6
  clear P E1 R0 hj S0
  have s0 := S6.out.bx.st2.c0
  have s1 := S6.out.bx.st2.c1
  have X2 := (R6.out.bx.set3 (.int .i64 0) (.int .i64 (a : Int)) (.int .i64 (b : Int))).st3
  have FIN := hide (E6.out.but (but_set3 w6 (w.heap.size + 1) (.int .i64 0) (.int .i64 (a : Int)) (.int .i64 (b : Int))) (by omega) R6.out.nf)
  obtain ⟨p0, p1, p2, p3, p4, p5, p6, p7⟩ := R6.out.bx.st3
  have z0 := X2.c0
  have z1 := X2.c1
  have z2 := X2.c2
  clear X2
  go_wp2_with fail
  refine bodyPost_ret (v := .tuple #[.agg #[.int .i64 0, .int .i64 (a : Int), .int .i64 (b : Int)], .int .i64 50]) (by simp [results, Tryz.f110, go_sem, z0, z1, z2]) rfl ?_
  exact ⟨_, _, _, rfl, FIN.out.d⟩
set_option maxRecDepth 100000 in
set_option maxHeartbeats 2000000 in
theorem rform1 {w : World} {base p m : Nat} {v : Value} {l : List Int} (h : Rd w base p v l m) (ht : TabX w) (hb0 : 2 < base) {a b : Nat} (hr : m + 1 ≤ 8 * l.length) (hx : rd (num l) l.length m 1 = 0) :
    Calls Tryz.prog 110 #[.pointer (some ⟨p, 0, none⟩), .agg #[.int .i64 (a : Int), .int .i64 (b : Int)]] w fun e w' => e = .returned (.tuple #[.agg #[.int .i64 0, .int .i64 (a : Int), .int .i64 (b : Int)], .int .i64 0]) ∧ Rd w' base p v l (m + 1) ∧ Did w w' base p nul nul := by
  replace hr := hide hr
  replace hx := hide hx
  have E0 := GSX.start h ht hb0
  have hz := zero81
  have S0 := hide ((Kx.newG h 116 #[.int .i64 (a : Int), .int .i64 (b : Int)]).alloc (.cells #[.int .i64 0, .int .i64 0, .int .i64 0] 153))
  have E0' := E0.alloc (.cells #[.int .i64 (a : Int), .int .i64 (b : Int)] 116)
  have R0 := hide (Kx.newG_at E0'.rd (g := w.heap.size + 1) (by simp) 153 #[.int .i64 0, .int .i64 0, .int .i64 0])
  have E1 := hide (E0'.alloc (.cells #[.int .i64 0, .int .i64 0, .int .i64 0] 153))
  clear E0 E0' h ht
  go_enter Tryz.func110, Tryz.ntmps110
  have P := hide (getG E1.out.rd 1 (ni := 1) (xi := 0) (x := 0) rfl hx.out rfl (by decide) hr.out)
  go_wp2_with fail
  refine P.out.mono ?_
  rintro e w6 ⟨rfl, W6, D6⟩
  have E6 := hide (E1.out.get D6 W6)
  have R6 := hide (R0.out.didN D6)
  have S6 := hide (S0.out.didN D6)
  clear P E1 R0 W6 D6 S0
  have s0 := S6.out.bx.st2.c0
  have s1 := S6.out.bx.st2.c1
  have X2 := (R6.out.bx.set3 (.int .i64 0) (.int .i64 (a : Int)) (.int .i64 (b : Int))).st3
  have FIN := hide (E6.out.but (but_set3 w6 (w.heap.size + 1) (.int .i64 0) (.int .i64 (a : Int)) (.int .i64 (b : Int))) (by omega) R6.out.nf)
  obtain ⟨p0, p1, p2, p3, p4, p5, p6, p7⟩ := R6.out.bx.st3
  have z0 := X2.c0
  have z1 := X2.c1
  have z2 := X2.c2
  clear X2
  go_wp2_with fail
  refine bodyPost_ret (v := .tuple #[.agg #[.int .i64 0, .int .i64 (a : Int), .int .i64 (b : Int)], .int .i64 0]) (by simp [results, Tryz.f110, go_sem, z0, z1, z2]) rfl ?_
  exact ⟨rfl, FIN.out.rd, FIN.out.d⟩
set_option maxRecDepth 100000 in
set_option maxHeartbeats 2000000 in
theorem rform2 {w : World} {base p m : Nat} {v : Value} {l : List Int} (h : Rd w base p v l m) (ht : TabX w) (hb0 : 2 < base) {a b : Nat} (hr : m + 1 ≤ 8 * l.length) (hx : rd (num l) l.length m 1 = 1) (hr2 : 8 * l.length < m + 2) :
    Calls Tryz.prog 110 #[.pointer (some ⟨p, 0, none⟩), .agg #[.int .i64 (a : Int), .int .i64 (b : Int)]] w fun e w' => ∃ x y z : Int, e = .returned (.tuple #[.agg #[.int .i64 x, .int .i64 y, .int .i64 z], .int .i64 50]) ∧ Did w w' base p nul nul := by
  replace hr := hide hr
  replace hx := hide hx
  replace hr2 := hide hr2
  have E0 := GSX.start h ht hb0
  have hz := zero81
  have S0 := hide ((Kx.newG h 116 #[.int .i64 (a : Int), .int .i64 (b : Int)]).alloc (.cells #[.int .i64 0, .int .i64 0, .int .i64 0] 153))
  have E0' := E0.alloc (.cells #[.int .i64 (a : Int), .int .i64 (b : Int)] 116)
  have R0 := hide (Kx.newG_at E0'.rd (g := w.heap.size + 1) (by simp) 153 #[.int .i64 0, .int .i64 0, .int .i64 0])
  have E1 := hide (E0'.alloc (.cells #[.int .i64 0, .int .i64 0, .int .i64 0] 153))
  clear E0 E0' h ht
  go_enter Tryz.func110, Tryz.ntmps110
  have P := hide (getG E1.out.rd 1 (ni := 1) (xi := 1) (x := 1) rfl hx.out rfl (by decide) hr.out)
  go_wp2_with fail
  refine P.out.mono ?_
  rintro e w2 ⟨rfl, W2, D2⟩
  have E2 := hide (E1.out.get D2 W2)
  have R2 := hide (R0.out.didN D2)
  have S2 := hide (S0.out.didN D2)
  clear P E1 R0 W2 D2 S0
  have P := hide (getG_no E2.out.rd 1 (ni := 1) rfl (by decide) hr2.out)
  go_wp2_with fail
  refine P.out.mono ?_
  rintro e w6 ⟨rfl, j, hj⟩
  have E6 := hide (E2.out.drewN j)
  have R6 := hide (R2.out.drewN j)
  have S6 := hide (S2.out.drewN j)
  rw [← hj] at E6 R6 S6
  clear P E2 R2 hj S2
  have s0 := S6.out.bx.st2.c0
  have s1 := S6.out.bx.st2.c1
  have X2 := (R6.out.bx.set3 (.int .i64 2) (.int .i64 (a : Int)) (.int .i64 (b : Int))).st3
  have FIN := hide (E6.out.but (but_set3 w6 (w.heap.size + 1) (.int .i64 2) (.int .i64 (a : Int)) (.int .i64 (b : Int))) (by omega) R6.out.nf)
  obtain ⟨p0, p1, p2, p3, p4, p5, p6, p7⟩ := R6.out.bx.st3
  have z0 := X2.c0
  have z1 := X2.c1
  have z2 := X2.c2
  clear X2
  go_wp2_with fail
  refine bodyPost_ret (v := .tuple #[.agg #[.int .i64 2, .int .i64 (a : Int), .int .i64 (b : Int)], .int .i64 50]) (by simp [results, Tryz.f110, go_sem, z0, z1, z2]) rfl ?_
  exact ⟨_, _, _, rfl, FIN.out.d⟩
set_option maxRecDepth 100000 in
set_option maxHeartbeats 2000000 in
theorem rform3 {w : World} {base p m : Nat} {v : Value} {l : List Int} (h : Rd w base p v l m) (ht : TabX w) (hb0 : 2 < base) {a b : Nat} (hr : m + 1 ≤ 8 * l.length) (hx : rd (num l) l.length m 1 = 1) (hr2 : m + 2 ≤ 8 * l.length) (hx2 : rd (num l) l.length (m + 1) 1 = 0) :
    Calls Tryz.prog 110 #[.pointer (some ⟨p, 0, none⟩), .agg #[.int .i64 (a : Int), .int .i64 (b : Int)]] w fun e w' => e = .returned (.tuple #[.agg #[.int .i64 2, .int .i64 (a : Int), .int .i64 (b : Int)], .int .i64 0]) ∧ Rd w' base p v l (m + 2) ∧ Did w w' base p nul nul := by
  replace hr := hide hr
  replace hx := hide hx
  replace hr2 := hide hr2
  replace hx2 := hide hx2
  have E0 := GSX.start h ht hb0
  have hz := zero81
  have S0 := hide ((Kx.newG h 116 #[.int .i64 (a : Int), .int .i64 (b : Int)]).alloc (.cells #[.int .i64 0, .int .i64 0, .int .i64 0] 153))
  have E0' := E0.alloc (.cells #[.int .i64 (a : Int), .int .i64 (b : Int)] 116)
  have R0 := hide (Kx.newG_at E0'.rd (g := w.heap.size + 1) (by simp) 153 #[.int .i64 0, .int .i64 0, .int .i64 0])
  have E1 := hide (E0'.alloc (.cells #[.int .i64 0, .int .i64 0, .int .i64 0] 153))
  clear E0 E0' h ht
  go_enter Tryz.func110, Tryz.ntmps110
  have P := hide (getG E1.out.rd 1 (ni := 1) (xi := 1) (x := 1) rfl hx.out rfl (by decide) hr.out)
  go_wp2_with fail
  refine P.out.mono ?_
  rintro e w2 ⟨rfl, W2, D2⟩
  have E2 := hide (E1.out.get D2 W2)
  have R2 := hide (R0.out.didN D2)
  have S2 := hide (S0.out.didN D2)
  clear P E1 R0 W2 D2 S0
  have P := hide (getG E2.out.rd 1 (ni := 1) (xi := 0) (x := 0) rfl hx2.out rfl (by decide) hr2.out)
  go_wp2_with fail
  refine P.out.mono ?_
  rintro e w6 ⟨rfl, W6, D6⟩
  have E6 := hide (E2.out.get D6 W6)
  have R6 := hide (R2.out.didN D6)
  have S6 := hide (S2.out.didN D6)
  clear P E2 R2 W6 D6 S2
  have s0 := S6.out.bx.st2.c0
  have s1 := S6.out.bx.st2.c1
  have X2 := (R6.out.bx.set3 (.int .i64 2) (.int .i64 (a : Int)) (.int .i64 (b : Int))).st3
  have FIN := hide (E6.out.but (but_set3 w6 (w.heap.size + 1) (.int .i64 2) (.int .i64 (a : Int)) (.int .i64 (b : Int))) (by omega) R6.out.nf)
  obtain ⟨p0, p1, p2, p3, p4, p5, p6, p7⟩ := R6.out.bx.st3
  have z0 := X2.c0
  have z1 := X2.c1
  have z2 := X2.c2
  clear X2
  go_wp2_with fail
  refine bodyPost_ret (v := .tuple #[.agg #[.int .i64 2, .int .i64 (a : Int), .int .i64 (b : Int)], .int .i64 0]) (by simp [results, Tryz.f110, go_sem, z0, z1, z2]) rfl ?_
  exact ⟨rfl, FIN.out.rd, FIN.out.d⟩
set_option maxRecDepth 100000 in
set_option maxHeartbeats 2000000 in
theorem rform4 {w : World} {base p m : Nat} {v : Value} {l : List Int} (h : Rd w base p v l m) (ht : TabX w) (hb0 : 2 < base) {a b : Nat} (hr : m + 1 ≤ 8 * l.length) (hx : rd (num l) l.length m 1 = 1) (hr2 : m + 2 ≤ 8 * l.length) (hx2 : rd (num l) l.length (m + 1) 1 = 1) (hr3 : 8 * l.length < m + 14 ∨ 64 < rd (num l) l.length (m + 2) 6 + (rd (num l) l.length (m + 8) 6 + 1)) :
    Calls Tryz.prog 110 #[.pointer (some ⟨p, 0, none⟩), .agg #[.int .i64 (a : Int), .int .i64 (b : Int)]] w fun e w' => ∃ x y z : Int, e = .returned (.tuple #[.agg #[.int .i64 x, .int .i64 y, .int .i64 z], .int .i64 50]) ∧ Did w w' base p nul nul := by
  replace hr := hide hr
  replace hx := hide hx
  replace hr2 := hide hr2
  replace hx2 := hide hx2
  replace hr3 := hide hr3
  replace hb0 := hb0
  have E0 := GSX.start h ht hb0
  have hz := zero81
  have S0 := hide ((Kx.newG h 116 #[.int .i64 (a : Int), .int .i64 (b : Int)]).alloc (.cells #[.int .i64 0, .int .i64 0, .int .i64 0] 153))
  have E0' := E0.alloc (.cells #[.int .i64 (a : Int), .int .i64 (b : Int)] 116)
  have R0 := hide (Kx.newG_at E0'.rd (g := w.heap.size + 1) (by simp) 153 #[.int .i64 0, .int .i64 0, .int .i64 0])
  have E1 := hide (E0'.alloc (.cells #[.int .i64 0, .int .i64 0, .int .i64 0] 153))
  clear E0 E0' h ht
  go_enter Tryz.func110, Tryz.ntmps110
  have P := hide (getG E1.out.rd 1 (ni := 1) (xi := 1) (x := 1) rfl hx.out rfl (by decide) hr.out)
  go_wp2_with fail
  refine P.out.mono ?_
  rintro e w2 ⟨rfl, W2, D2⟩
  have E2 := hide (E1.out.get D2 W2)
  have R2 := hide (R0.out.didN D2)
  have S2 := hide (S0.out.didN D2)
  clear P E1 R0 W2 D2 S0
  have P := hide (getG E2.out.rd 1 (ni := 1) (xi := 1) (x := 1) rfl hx2.out rfl (by decide) hr2.out)
  go_wp2_with fail
  refine P.out.mono ?_
  rintro e w3 ⟨rfl, W3, D3⟩
  have E3 := hide (E2.out.get D3 W3)
  have R3 := hide (R2.out.didN D3)
  have S3 := hide (S2.out.didN D3)
  clear P E2 R2 W3 D3 S2
  have P := hide (rwin_no E3.out.rd E3.out.t E3.out.b0 (by rcases hr3.out with h | h; exact .inl (by omega); exact .inr h))
  go_wp2_with fail
  refine P.out.mono ?_
  rintro e w5 ⟨rfl, D5⟩
  have R5 := hide (R3.out.didN D5)
  have DD := hide (E3.out.d.trans D5)
  have bw := hide E3.out.bw
  have X4 := hide (Bx.new w5 116 #[.int .i64 0, .int .i64 0])
  have R6 := hide (R5.out.alloc (.cells #[.int .i64 0, .int .i64 0] 116))
  have x0 := X4.out.st2.c0
  have x1 := X4.out.st2.c1
  have hbb := hide (show base ≤ w5.heap.size by have := E3.out.rd.lt; have := D5.bel.size; omega)
  have bt := but_set3 (w5.alloc (.cells #[.int .i64 0, .int .i64 0] 116)) (w.heap.size + 1) (.int .i64 3) (.int .i64 0) (.int .i64 0)
  have D6 := DD.out.post ((Below.refl _ w5).alloc (Nat.le_refl _) (.cells #[.int .i64 0, .int .i64 0] 116)) hbb.out
  have hbel : Below base (w5.alloc (.cells #[.int .i64 0, .int .i64 0] 116)) _ := bt.below (by simp; have := hbb.out; omega) (fun i hi => by have := bw.out; omega)
  have D7 : Hid (Did w _ base p nul nul) := ⟨D6.bel.trans hbel, D6.but.trans bt (fun i hi e => by omega), D6.own⟩
  clear P E3 R3 S3 D5 DD R5 bt D6 hbel
  have X2 := (R6.out.bx.set3 (.int .i64 3) (.int .i64 0) (.int .i64 0)).st3
  obtain ⟨p0, p1, p2, p3, p4, p5, p6, p7⟩ := R6.out.bx.st3
  have z0 := X2.c0
  have z1 := X2.c1
  have z2 := X2.c2
  clear X2
  go_wp2_with fail
  refine bodyPost_ret (v := .tuple #[.agg #[.int .i64 3, .int .i64 0, .int .i64 0], .int .i64 50]) (by simp [results, Tryz.f110, go_sem, z0, z1, z2]) rfl ?_
  exact ⟨_, _, _, rfl, D7.out⟩
set_option maxRecDepth 100000 in
set_option maxHeartbeats 2000000 in
theorem rform5 {w : World} {base p m : Nat} {v : Value} {l : List Int} (h : Rd w base p v l m) (ht : TabX w) (hb0 : 2 < base) {a b : Nat} {A S : Nat} (hr : m + 1 ≤ 8 * l.length) (hx : rd (num l) l.length m 1 = 1) (hr2 : m + 2 ≤ 8 * l.length) (hx2 : rd (num l) l.length (m + 1) 1 = 1) (hr3 : m + 14 ≤ 8 * l.length) (hA : rd (num l) l.length (m + 2) 6 = A) (hS : rd (num l) l.length (m + 8) 6 = S) (hAS : A + (S + 1) ≤ 64) :
    Calls Tryz.prog 110 #[.pointer (some ⟨p, 0, none⟩), .agg #[.int .i64 (a : Int), .int .i64 (b : Int)]] w fun e w' => e = .returned (.tuple #[.agg #[.int .i64 3, .int .i64 (A : Int), .int .i64 ((64 - A - (S + 1) : Nat) : Int)], .int .i64 0]) ∧ Rd w' base p v l (m + 14) ∧ Did w w' base p nul nul := by
  replace hr := hide hr
  replace hx := hide hx
  replace hr2 := hide hr2
  replace hx2 := hide hx2
  replace hr3 := hide hr3
  replace hA := hide hA
  replace hS := hide hS
  replace hAS := hide hAS
  obtain ⟨T, hT⟩ : ∃ T, 64 - A - (S + 1) = T := ⟨_, rfl⟩
  rw [hT]
  have E0 := GSX.start h ht hb0
  have hz := zero81
  have S0 := hide ((Kx.newG h 116 #[.int .i64 (a : Int), .int .i64 (b : Int)]).alloc (.cells #[.int .i64 0, .int .i64 0, .int .i64 0] 153))
  have E0' := E0.alloc (.cells #[.int .i64 (a : Int), .int .i64 (b : Int)] 116)
  have R0 := hide (Kx.newG_at E0'.rd (g := w.heap.size + 1) (by simp) 153 #[.int .i64 0, .int .i64 0, .int .i64 0])
  have E1 := hide (E0'.alloc (.cells #[.int .i64 0, .int .i64 0, .int .i64 0] 153))
  clear E0 E0' h ht
  go_enter Tryz.func110, Tryz.ntmps110
  have P := hide (getG E1.out.rd 1 (ni := 1) (xi := 1) (x := 1) rfl hx.out rfl (by decide) hr.out)
  go_wp2_with fail
  refine P.out.mono ?_
  rintro e w2 ⟨rfl, W2, D2⟩
  have E2 := hide (E1.out.get D2 W2)
  have R2 := hide (R0.out.didN D2)
  have S2 := hide (S0.out.didN D2)
  clear P E1 R0 W2 D2 S0
  have P := hide (getG E2.out.rd 1 (ni := 1) (xi := 1) (x := 1) rfl hx2.out rfl (by decide) hr2.out)
  go_wp2_with fail
  refine P.out.mono ?_
  rintro e w3 ⟨rfl, W3, D3⟩
  have E3 := hide (E2.out.get D3 W3)
  have R3 := hide (R2.out.didN D3)
  have S3 := hide (S2.out.didN D3)
  clear P E2 R2 W3 D3 S2
  have P := hide (rwin_ok E3.out.rd E3.out.t E3.out.b0 (A := A) (S := S) (by have := hr3.out; omega) hA.out hS.out hAS.out)
  rw [hT] at P
  replace hT := hide hT
  go_wp2_with fail
  refine P.out.mono ?_
  rintro e w5 ⟨rfl, W5, D5⟩
  have E5 := E3.out.get D5 W5
  have E6 := hide (E5.alloc (.cells #[.int .i64 (A : Int), .int .i64 (T : Int)] 116))
  have X4 := hide (Bx.new w5 116 #[.int .i64 (A : Int), .int .i64 (T : Int)])
  have R6 := hide ((R3.out.didN D5).alloc (.cells #[.int .i64 (A : Int), .int .i64 (T : Int)] 116))
  have x0 := X4.out.st2.c0
  have x1 := X4.out.st2.c1
  clear P E3 R3 S3 W5 D5 E5
  have X2 := (R6.out.bx.set3 (.int .i64 3) (.int .i64 (A : Int)) (.int .i64 (T : Int))).st3
  have FIN := hide (E6.out.but (but_set3 (w5.alloc (.cells #[.int .i64 (A : Int), .int .i64 (T : Int)] 116)) (w.heap.size + 1) (.int .i64 3) (.int .i64 (A : Int)) (.int .i64 (T : Int))) (by omega) R6.out.nf)
  obtain ⟨p0, p1, p2, p3, p4, p5, p6, p7⟩ := R6.out.bx.st3
  have z0 := X2.c0
  have z1 := X2.c1
  have z2 := X2.c2
  clear X2
  go_wp2_with fail
  refine bodyPost_ret (v := .tuple #[.agg #[.int .i64 3, .int .i64 (A : Int), .int .i64 (T : Int)], .int .i64 0]) (by simp [results, Tryz.f110, go_sem, z0, z1, z2]) rfl ?_
  exact ⟨rfl, FIN.out.rd, FIN.out.d⟩

/-- readForm, as rF tells it. -/
theorem rform_ok {w : World} {base p m : Nat} {v : Value} {l : List Int} (h : Rd w base p v l m) (ht : TabX w) (hb0 : 2 < base) {a b mk fa fb m' : Nat} (hF : rF a b (num l) l.length m = some (mk, fa, fb, m')) :
    Calls Tryz.prog 110 #[.pointer (some ⟨p, 0, none⟩), .agg #[.int .i64 (a : Int), .int .i64 (b : Int)]] w fun e w' => e = .returned (.tuple #[.agg #[.int .i64 (mk : Int), .int .i64 (fa : Int), .int .i64 (fb : Int)], .int .i64 0]) ∧ Rd w' base p v l m' ∧ Did w w' base p nul nul := by
  unfold rF at hF
  have c0 := bit_lt (num l) l.length m
  have c1 := bit_lt (num l) l.length (m + 1)
  split at hF
  · cases hF
  split at hF
  · cases hF
    exact rform1 h ht hb0 (by omega) (by assumption)
  split at hF
  · cases hF
  split at hF
  · cases hF
    exact rform3 h ht hb0 (by omega) (by omega) (by omega) (by assumption)
  split at hF
  · cases hF
  split at hF
  · cases hF
  cases hF
  exact rform5 h ht hb0 (by omega) (by omega) (by omega) (by omega) (by omega) rfl rfl (by omega)
theorem rform_no {w : World} {base p m : Nat} {v : Value} {l : List Int} (h : Rd w base p v l m) (ht : TabX w) (hb0 : 2 < base) {a b : Nat} (hF : rF a b (num l) l.length m = none) :
    Calls Tryz.prog 110 #[.pointer (some ⟨p, 0, none⟩), .agg #[.int .i64 (a : Int), .int .i64 (b : Int)]] w fun e w' => ∃ x y z : Int, e = .returned (.tuple #[.agg #[.int .i64 x, .int .i64 y, .int .i64 z], .int .i64 50]) ∧ Did w w' base p nul nul := by
  unfold rF at hF
  have c0 := bit_lt (num l) l.length m
  have c1 := bit_lt (num l) l.length (m + 1)
  split at hF
  · exact rform0 h ht hb0 (by assumption)
  split at hF
  · cases hF
  split at hF
  · exact rform2 h ht hb0 (by omega) (by omega) (by assumption)
  split at hF
  · cases hF
  split at hF
  · exact rform4 h ht hb0 (by omega) (by omega) (by omega) (by omega) (.inl (by assumption))
  split at hF
  · exact rform4 h ht hb0 (by omega) (by omega) (by omega) (by omega) (.inr (by assumption))
  cases hF

end Go.Proofs.YtmjjedbdedemcaaGreatDoor
