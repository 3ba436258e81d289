/-
  Forms held against each other; what is read, step by step.
-/
import Derived.Test.YtmddkinecplooaaDoorXI
import Derived.Test.YtmddkinecplooaaDoorL
namespace Go.Proofs.YtmddkinecplooaaDoor
open Go.RowKit
set_option linter.unusedVariables false
set_option linter.unusedSimpArgs false

theorem held102 : Tryd.prog.stoodInHeld 102 = false := by kernel_rfl
theorem under102 : Tryd.prog.underlying 102 = some (.struct (Tryd.prog.fieldsOf 102)) := by kernel_rfl
theorem eqIn81 (d : Nat) (x1 x2 y1 y2 : Int) (w : World) : (Op.equalIn (d + 3) 81 (.agg #[.int .i64 x1, .int .i64 x2]) (.agg #[.int .i64 y1, .int .i64 y2])).run Tryd.prog w = .ok (decide (x1 = y1 ∧ x2 = y2)) w := by
  rw [run_equalIn_agg w _ 81 _ _ under81 held81]
  have hs : ∀ w, (sizeOf 3).run Tryd.prog w = .ok 1 w := fun w => by kernel_rfl
  have hu := Tryd.underlying3
  rw [show (Tryd.prog.fieldsOf 81).toList = _ from rfl]
  simp [Op.eqFields, go_sem]
  by_cases h1 : x1 = y1 <;> by_cases h2 : x2 = y2 <;> simp [h1, h2]
theorem run_neq102 (x0 x1 x2 y0 y1 y2 : Int) (w : World) : (binOp .neq 102 (.agg #[.int .i64 x0, .int .i64 x1, .int .i64 x2]) (.agg #[.int .i64 y0, .int .i64 y1, .int .i64 y2])).run Tryd.prog w = .ok (.bool (!decide (x0 = y0 ∧ x1 = y1 ∧ x2 = y2))) w := by
  rw [run_neq_struct, run_equalIn_agg w 9999 102 _ _ under102 held102]
  have hs : ∀ w, (sizeOf 3).run Tryd.prog w = .ok 1 w := fun w => by kernel_rfl
  have hs3 : ∀ w, (sizeOf 81).run Tryd.prog w = .ok 2 w := fun w => by kernel_rfl
  have hu := Tryd.underlying3
  have h81 := fun w => eqIn81 9994 x1 x2 y1 y2 w
  rw [show (Tryd.prog.fieldsOf 102).toList = _ from rfl]
  simp [Op.eqFields, go_sem]
  by_cases h0 : x0 = y0 <;> by_cases h1 : x1 = y1 <;> by_cases h2 : x2 = y2 <;> simp [h0, h1, h2]

/-- The form that is read at m: its mark, its window, the place behind it. -/
def rF (a b V N m : Nat) : Option (Nat × Nat × Nat × Nat) :=
  if 8 * N < m + 1 then none else if rd V N m 1 = 0 then some (0, a, b, m + 1) else
  if 8 * N < m + 2 then none else if rd V N (m + 1) 1 = 0 then some (2, a, b, m + 2) else
  if 8 * N < m + 14 then none else if 64 < rd V N (m + 2) 6 + (rd V N (m + 8) 6 + 1) then none else some (3, rd V N (m + 2) 6, 64 - rd V N (m + 2) 6 - (rd V N (m + 8) 6 + 1), m + 14)
def fS (mk fa fb : Nat) : Nat := if mk = 0 then 0 else 64 - fa - fb
/-- The difference that is read behind a form. -/
def rT (a b V N mk fa fb m : Nat) : Option Nat :=
  if 8 * N < m + fS mk fa fb then none else
  if dM a b (rd V N m (fS mk fa fb) * 2 ^ fb) = mk ∧ dA a b (rd V N m (fS mk fa fb) * 2 ^ fb) = fa ∧ dB a b (rd V N m (fS mk fa fb) * 2 ^ fb) = fb then some (rd V N m (fS mk fa fb) * 2 ^ fb) else none
theorem rX_eq {a b V N m : Nat} (hw : OkW a b) : rX a b V N m = (rF a b V N m).bind (fun q => (rT a b V N q.1 q.2.1 q.2.2.1 q.2.2.2).map (fun x => (x, q.2.2.2 + fS q.1 q.2.1 q.2.2.1 - m, q.2.1, q.2.2.1))) := by
  unfold rX rF
  by_cases h1 : 8 * N < m + 1
  · rw [if_pos h1, if_pos h1]; rfl
  rw [if_neg h1, if_neg h1]
  by_cases h2 : rd V N m 1 = 0
  · rw [if_pos h2, if_pos h2]
    simp only [Option.bind_some, rT, fS, if_pos, rd_zero, Nat.zero_mul]
    rw [if_neg (by omega), if_pos ⟨by simp [dM], by simp [dA], by simp [dB]⟩]
    simp only [Option.map_some, Option.some.injEq, Prod.mk.injEq, true_and, and_true]
    omega
  rw [if_neg h2, if_neg h2]
  by_cases h3 : 8 * N < m + 2
  · rw [if_pos h3, if_pos h3]; rfl
  rw [if_neg h3, if_neg h3]
  by_cases h4 : rd V N (m + 1) 1 = 0
  · rw [if_pos h4, if_pos h4]
    simp only [Option.bind_some]
    have e : fS 2 a b = 64 - a - b := by simp [fS]
    unfold rT
    rw [e]
    cases hI : rI a b V N m with
    | none =>
      unfold rI at hI
      split at hI
      · rename_i h5
        rw [if_pos (by omega)]; rfl
      · split at hI
        · rename_i h5 h6
          rw [if_neg (by omega), h6, if_neg (by intro h; have := h.1; simp [dM] at this)]; rfl
        · cases hI
    | some x =>
      obtain ⟨i1, i2, i3, i4, i5, i6⟩ := rI_ok hw hI
      rw [if_neg (by omega), ← i2, if_pos ⟨by simp [dM, i3, i5], by simp [dA, i3, i5], by simp [dB, i3, i5]⟩]
      simp only [Option.map_some, Option.some.injEq, Prod.mk.injEq, true_and, and_true]
      omega
  rw [if_neg h4, if_neg h4]
  by_cases h5 : 8 * N < m + 14
  · rw [if_pos h5, if_pos h5]; rfl
  rw [if_neg h5, if_neg h5]
  unfold rO
  by_cases h6 : 64 < rd V N (m + 2) 6 + (rd V N (m + 8) 6 + 1)
  · rw [if_pos h6, if_pos h6]; rfl
  rw [if_neg h6, if_neg h6]
  simp only [Option.bind_some]
  have e : fS 3 (rd V N (m + 2) 6) (64 - rd V N (m + 2) 6 - (rd V N (m + 8) 6 + 1)) = rd V N (m + 8) 6 + 1 := by simp only [fS]; rw [if_neg (by decide)]; omega
  unfold rT
  rw [e]
  generalize rd V N (m + 2) 6 = A at *
  generalize rd V N (m + 8) 6 + 1 = S at *
  by_cases h7 : 8 * N < m + 14 + S
  · rw [if_pos h7, if_pos h7]; rfl
  rw [if_neg h7, if_neg h7]
  generalize rd V N (m + 14) S * 2 ^ (64 - A - S) = x at *
  by_cases h8 : x ≠ 0 ∧ lz x = A ∧ tz x = 64 - A - S ∧ ¬ inW a b x
  · obtain ⟨k1, k2, k3, k4⟩ := h8
    rw [if_pos ⟨k1, k2, k3, k4⟩, if_pos ⟨by simp [dM, k1, k4], by simp [dA, k1, k4, k2], by simp [dB, k1, k4, k3]⟩]
    simp only [Option.map_some, Option.some.injEq, Prod.mk.injEq, true_and, and_true]
    omega
  · rw [if_neg h8, if_neg]
    · rfl
    · rintro ⟨k1, k2, k3⟩
      apply h8
      unfold dM at k1
      by_cases x0 : x = 0
      · rw [if_pos x0] at k1; omega
      · rw [if_neg x0] at k1
        by_cases hin : inW a b x
        · rw [if_pos hin] at k1; omega
        · unfold dA at k2
          unfold dB at k3
          rw [if_neg x0, if_neg hin] at k2 k3
          exact ⟨x0, k2, k3, hin⟩

/-- A value that has no block: what turns a reader's block alone turns 'fp p nul'. -/
abbrev nul : Value := .slice none 0 0
theorem fp_nul {p k : Nat} (h : fp p nul k) : k = p := by
  rcases h with h | h
  · exact h
  · cases h
theorem nf_nul {p g : Nat} {v : Value} (h : ¬ fp p v g) : ¬ fp p nul g := fun hf => h (.inl (fp_nul hf))
theorem dis_nul {p q : Nat} {v u : Value} (h : Dis p v q u) : Dis p nul q u := fun k hk => h k (.inl (fp_nul hk))
theorem Kx.didN {w w' : World} {p g base : Nat} {v : Value} {t : TypeId} {xs : Array Value} (h : Kx w p v g t xs) (d : Did w w' base p nul nul) : Kx w' p v g t xs := ⟨h.bx.did d (nf_nul h.nf), h.nf⟩

/-- A reader on its way from w0 to w. -/
structure GS (w0 w : World) (base p : Nat) (v : Value) (l : List Int) (m : Nat) : Prop where
  rd : Rd w base p v l m
  d : Did w0 w base p nul nul
  t : Tab w
  b0 : 0 < base
  bw : base ≤ w0.heap.size
section
variable {w0 w w' : World} {base p m m' : Nat} {v : Value} {l : List Int}
theorem Rd.not (h : Rd w base p v l m) {g : Nat} (hg : w.heap.size ≤ g) : ¬ fp p v g := fun hf => by
  have := (h.1.fplt g hf).2
  omega
theorem Rd.lt (h : Rd w base p v l m) : base ≤ p ∧ p < w.heap.size := ⟨h.1.ge, h.1.lt⟩
theorem Rd.drew (h : Rd w base p v l m) : Rd w.drew base p v l m := ⟨h.1.drew, h.2⟩
theorem Kx.newG (h : Rd w base p v l m) (t : TypeId) (xs : Array Value) : Kx (w.alloc (.cells xs t)) p v w.heap.size t xs := ⟨Bx.new w t xs, h.not (Nat.le_refl _)⟩
theorem Kx.newG_at (h : Rd w base p v l m) {g : Nat} (hg : g = w.heap.size) (t : TypeId) (xs : Array Value) : Kx (w.alloc (.cells xs t)) p v g t xs := by subst hg; exact Kx.newG h t xs
theorem GS.start (h : Rd w base p v l m) (ht : Tab w) (hb : 0 < base) : GS w w base p v l m := ⟨h, Did.refl _ _ _ _, ht, hb, by have := h.lt; omega⟩
theorem GS.below (h : GS w0 w base p v l m) (hb : Below w.heap.size w w') : GS w0 w' base p v l m :=
  ⟨h.rd.below hb (Nat.le_refl _), h.d.post hb (by have := h.rd.lt; omega), h.t.below hb, h.b0, h.bw⟩
theorem GS.alloc (h : GS w0 w base p v l m) (o : Obj) : GS w0 (w.alloc o) base p v l m := h.below ((Below.refl _ _).alloc (Nat.le_refl _) _)
theorem GS.get (h : GS w0 w base p v l m) (d : Did w w' base p nul nul) (hr : Rd w' base p v l m') : GS w0 w' base p v l m' := ⟨hr, h.d.trans d, h.t.did d h.b0, h.b0, h.bw⟩
theorem GS.drew (h : GS w0 w base p v l m) : GS w0 w.drew base p v l m := ⟨h.rd.drew, h.d.drew, h.t, h.b0, h.bw⟩
theorem GS.drewN (h : GS w0 w base p v l m) (j : Nat) : GS w0 (w.drewN j) base p v l m := ⟨h.rd.drewN j, h.d.drewN j, h.t, h.b0, h.bw⟩
theorem GS.but (h : GS w0 w base p v l m) {g : Nat} (hb : But (fun i => i = g) w w') (hg : w0.heap.size ≤ g) (hn : ¬ fp p v g) : GS w0 w' base p v l m := by
  have hbw := h.bw
  have hlt := h.rd.lt
  have hbel : Below base w w' := hb.below (by omega) (fun i hi => by omega)
  exact ⟨⟨h.rd.1.kept hb (fun i hi => by rw [hi]; exact hn), h.rd.2⟩, ⟨h.d.bel.trans hbel, h.d.but.trans hb (fun i hi e => by omega), h.d.own⟩, h.t.kept hbel h.b0, h.b0, h.bw⟩
end
theorem getG {w : World} {base p n0 : Nat} {v : Value} {l : List Int} (h : Rd w base p v l n0) (n : Nat) {ni xi : Int} {x : Nat} (e1 : ni = (n : Int)) (hx : rd (num l) l.length n0 n = x) (e2 : (x : Int) = xi) (hn : n ≤ 64) (hroom : n0 + n ≤ 8 * l.length) :
    Calls Tryd.prog 23 #[.pointer (some ⟨p, 0, none⟩), .int .i64 ni] w fun e w' => e = .returned (.tuple #[.int .u64 xi, .int .i64 0]) ∧ Rd w' base p v l (n0 + n) ∧ Did w w' base p nul nul := by
  subst e1 e2 hx
  refine (get_ok h.1 h.2.1 h.2.2.1 n hn hroom).mono ?_
  rintro e w' ⟨he, O', B'⟩
  exact ⟨he, ⟨O', h.2.1, h.2.2.1, hroom⟩, h.1.belR B', B'.mono (fun k hk => .inl hk), fun i _ h => h⟩
theorem getG_no {w : World} {base p n0 : Nat} {v : Value} {l : List Int} (h : Rd w base p v l n0) (n : Nat) {ni : Int} (e1 : ni = (n : Int)) (hn : n ≤ 64) (hroom : 8 * l.length < n0 + n) :
    Calls Tryd.prog 23 #[.pointer (some ⟨p, 0, none⟩), .int .i64 ni] w fun e w' => e = .returned (.tuple #[.int .u64 0, .int .i64 50]) ∧ ∃ k, w' = w.drewN k := by
  subst e1
  exact getRdBits h n hn hroom
end Go.Proofs.YtmddkinecplooaaDoor
