/-
  Times: how a class is read.
-/
import Derived.Test.YtmjjedbdedemcaaGreatDoorSB
import Derived.Deep.Cut
namespace Go.Proofs.YtmjjedbdedemcaaGreatDoor
open Go.RowKit
set_option linter.unusedVariables false

set_option linter.unusedSimpArgs false

theorem getR {w : World} {base p n0 : Nat} {v : Value} {l : List Int} (h : Rd w base p v l n0) (n : Nat) {ni xi : Int} {x : Nat} (e1 : ni = (n : Int)) (hx : rd (num l) l.length n0 n = x) (e2 : xi = (x : Int)) (hn : n ≤ 64) (hroom : n0 + n ≤ 8 * l.length) :
    Calls Tryz.prog 80 #[.pointer (some ⟨p, 0, none⟩), .int .i64 ni] w fun e w' => e = .returned (.tuple #[.int .u64 xi, .int .i64 0]) ∧ Rd w' base p v l (n0 + n) ∧ But (fun k => k = p) w w' := by
  subst e1 e2 hx
  refine (get_ok h.1 h.2.1 h.2.2.1 n hn hroom).mono ?_
  rintro e w' ⟨he, O', B'⟩
  exact ⟨he, ⟨O', h.2.1, h.2.2.1, hroom⟩, B'⟩
theorem getR_bits {w : World} {base p n0 : Nat} {v : Value} {l : List Int} (h : Rd w base p v l n0) (n : Nat) {ni : Int} (e1 : ni = (n : Int)) (hn : n ≤ 64) (hroom : 8 * l.length < n0 + n) :
    Calls Tryz.prog 80 #[.pointer (some ⟨p, 0, none⟩), .int .i64 ni] w fun e w' => e = .returned (.tuple #[.int .u64 0, .int .i64 50]) ∧ ∃ k, w' = w.drewN k := by
  subst e1
  exact get_bits h.1 h.2.2.1 n hn h.2.2.2 hroom
theorem Rd.but {w w' : World} {base p n0 p2 : Nat} {v : Value} {l : List Int} (h : Rd w base p v l n0) (hb : But (fun k => k = p2) w w') (hn : ¬ fp p v p2) : Rd w' base p v l n0 := ⟨h.1.kept hb (fun k hk => by rw [hk]; exact hn), h.2⟩
theorem Rd.lt {w : World} {base p n0 : Nat} {v : Value} {l : List Int} (h : Rd w base p v l n0) : base ≤ p ∧ p < w.heap.size := ⟨h.1.ge, h.1.lt⟩
theorem Box3.but {w w' : World} {g p : Nat} {x y z : Value} (h : Box3 w g x y z) (hb : But (fun k => k = p) w w') (hn : g ≠ p) : Box3 w' g x y z := h.same (hb.block g h.lt hn) hb.size
theorem TabS.but {w w' : World} {p : Nat} (h : TabS w) (hb : But (fun k => k = p) w w') (hn : 0 < p) : TabS w' := by
  obtain ⟨t, fr, h1⟩ := h
  exact ⟨t, fr, (hb.block 0 (TabS.pos ⟨t, fr, h1⟩) (by omega)).trans h1⟩
theorem But.one_trans {p : Nat} {a b c : World} (h : But (fun k => k = p) a b) (k : But (fun k => k = p) b c) : But (fun k => k = p) a c := h.trans k (fun _ _ h => h)
theorem but_below {p : Nat} {w w' : World} (h : Below w.heap.size w w') : But (fun k => k = p) w w' := (but_of_below h (fun _ => False) (fun k h1 h2 => by omega)).mono (fun _ h => h.elim)

/-- How things stand within readClass: the reader, the result's box at g. -/
structure RC (w0 w : World) (base p : Nat) (v : Value) (l : List Int) (n g : Nat) : Prop where
  rd : Rd w base p v l n
  t : TabS w
  r : Box3 w g (.int .u64 0) (.int .i64 0) (.int .i64 0)
  but : But (fun k => k = p) w0 w
  gp : g ≠ p
  b0 : 0 < base
theorem RC.get {w0 w w' : World} {base p n n' g : Nat} {v : Value} {l : List Int} (h : RC w0 w base p v l n g) (hb : But (fun k => k = p) w w') (hr : Rd w' base p v l n') : RC w0 w' base p v l n' g :=
  ⟨hr, h.t.but hb (by have := h.rd.lt; have := h.b0; omega), h.r.but hb h.gp, h.but.one_trans hb, h.gp, h.b0⟩
theorem RC.below {w0 w w' : World} {base p n g : Nat} {v : Value} {l : List Int} (h : RC w0 w base p v l n g) (hb : Below w.heap.size w w') : RC w0 w' base p v l n g :=
  ⟨h.rd.below hb (Nat.le_refl _), h.t.kept hb h.t.pos, h.r.kept hb h.r.lt, h.but.one_trans (but_below hb), h.gp, h.b0⟩
theorem RC.drewN {w0 w : World} {base p n g : Nat} {v : Value} {l : List Int} (h : RC w0 w base p v l n g) (k : Nat) : RC w0 (w.drewN k) base p v l n g :=
  ⟨h.rd.drewN k, h.t, ⟨h.r.c0, h.r.c1, h.r.c2, h.r.f0, h.r.f1, h.r.f2, h.r.lt⟩, h.but.drewN k, h.gp, h.b0⟩
theorem RC.start {w : World} {base p n : Nat} {v : Value} {l : List Int} (h : Rd w base p v l n) (hT : TabS w) (hb0 : 0 < base) : RC w (w.alloc (.cells #[.int .u64 0, .int .i64 0, .int .i64 0] 145)) base p v l n w.heap.size := by
  have B0 : Below w.heap.size w (w.alloc (.cells #[.int .u64 0, .int .i64 0, .int .i64 0] 145)) := (Below.refl _ w).alloc (Nat.le_refl _) _
  have := h.lt
  exact ⟨h.below B0 (Nat.le_refl _), hT.kept B0 hT.pos, Box3.new w _ _ _ 145, but_below B0, by omega, hb0⟩
theorem RC.done {w0 w : World} {base p n g : Nat} {v : Value} {l : List Int} (h : RC w0 w base p v l n g) (hg : w0.heap.size ≤ g) (hnf : ¬ fp p v g) (x y z : Value) :
    Rd (((w.setCell ⟨g, 0, none⟩ x).setCell ⟨g, 1, none⟩ y).setCell ⟨g, 2, none⟩ z) base p v l n ∧ But (fun k => k = p) w0 (((w.setCell ⟨g, 0, none⟩ x).setCell ⟨g, 1, none⟩ y).setCell ⟨g, 2, none⟩ z) :=
  ⟨h.rd.but (but3 w g x y z) hnf, h.but.trans (but3 w g x y z) (fun i hi e => by omega)⟩
theorem zero96 : (Tryz.prog.info? 145).map (·.zero) = some (some (.agg #[.int .u64 0, .int .i64 0, .int .i64 0])) := by kernel_rfl

/-- What readClass does. -/
def ReadC (w : World) (base p : Nat) (v : Value) (l : List Int) (n : Nat) (e : Ending) (w' : World) : Prop :=
  ((∃ c, c ≤ 4 ∧ rcs (num l) l.length n 0 = some c ∧ e = .returned (.tuple #[clsV c, .int .i64 0]) ∧ Rd w' base p v l (n + cAhead c)) ∨ (rcs (num l) l.length n 0 = none ∧ e = .returned (.tuple #[.agg #[.int .u64 0, .int .i64 0, .int .i64 0], .int .i64 50]))) ∧ But (fun k => k = p) w w'

set_option maxHeartbeats 4000000 in
theorem readClass_any {w : World} {base p n : Nat} {v : Value} {l : List Int} (h : Rd w base p v l n) (hT : TabS w) (hb0 : 0 < base) : Calls Tryz.prog 111 #[.pointer (some ⟨p, 0, none⟩)] w (ReadC w base p v l n) := by
  have E0 := hide (RC.start h hT hb0)
  have hnf : Hid (¬ fp p v w.heap.size) := fun hf => by have := (h.1.fplt _ hf).2; omega
  have hz := zero96
  have hTT := hide E0.out.t
  obtain ⟨t, fr, T0⟩ := E0.out.t
  replace T0 := hide T0
  clear h hT
  unfold ReadC
  go_enter Tryz.func111, Tryz.ntmps111
  go_wp2_with (refine wpList_load_row rfl 165 (.global 0) rfl 0 rfl _ _ _ _ T0.out Tryz.underlying165 rfl info100 ?_)
  go_loopw [4, 5, 11] (fun mv sv iv wr => ∃ i : Nat, i ≤ 4 ∧ mv = .int .u64 ((2 ^ i - 1 : Nat) : Int) ∧ sv = .int .i64 (i : Int) ∧ iv = .int .i64 (i : Int) ∧ Hid (rcs (num l) l.length n 0 = rcs (num l) l.length n i) ∧ Hid (RC w wr base p v l (n + i) w.heap.size)) (fun _ _ iv _ => 5 - (intOf iv).toNat)
  case atStart => exact ⟨0, by omega, rfl, rfl, rfl, rfl, E0⟩
  case round =>
    obtain ⟨i, hi, rfl, rfl, rfl, hc, E⟩ := hrel
    clear E0 T0 hTT
    rcases five hi with rfl | rfl | rfl | rfl | rfl
    · simp only [show ((0 : Nat) : Int) = 0 from rfl, show ((2 ^ 0 - 1 : Nat) : Int) = 0 from rfl]
      have hix := index0
      have E1 := hide (E.out.below ((Below.refl wr.heap.size wr).alloc (Nat.le_refl _) (.cells #[.int .u64 0, .int .i64 1, .int .i64 0] 145)))
      have X1 := hide (Box3.new wr (.int .u64 0) (.int .i64 1) (.int .i64 0) 145)
      have x0 := X1.out.c0
      have x1 := X1.out.c1
      have x2 := X1.out.c2
      have hgp : Hid (wr.heap.size ≠ p) := by have := E.out.rd.lt; show _ ≠ _; omega
      by_cases hroom : n + 0 + 1 ≤ 8 * l.length
      · have hb2 := bit_lt (num l) l.length (n + 0)
        have hcases : rd (num l) l.length (n + 0) 1 = 0 ∨ rd (num l) l.length (n + 0) 1 = 1 := by omega
        rcases hcases with hx | hx
        · have hres : Hid (rcs (num l) l.length n 0 = some 0) := hc.out.trans (rcs_zero (by omega) (by omega) hx)
          have hor : bits .or .u64 0 0 = 0 := by decide +kernel
          have P := hide (getR E1.out.rd 1 (ni := 1) (xi := 0) rfl hx rfl (by decide) (by omega))
          replace hx := hide hx
          replace hroom := hide hroom
          go_wp2_with fail
          refine P.out.mono ?_
          rintro e w2 ⟨rfl, R2, b2⟩
          have E2 := hide (E1.out.get b2 R2)
          have X2' := X1.out.but b2 hgp.out
          clear P x0 x1 x2 R2 b2 E1 E X1
          have y0 := X2'.c0
          have y1 := X2'.c1
          have y2 := X2'.c2
          go_wp2_with fail
          go_quiet (fail)
          have E3 := hide (E2.out.drewN nq)
          have FIN := hide (E3.out.done (Nat.le_refl _) hnf.out (.int .u64 0) (.int .i64 1) (.int .i64 0))
          have X2 := hide (E3.out.r.set (.int .u64 0) (.int .i64 1) (.int .i64 0))
          obtain ⟨r0, r1, r2, r3, r4, r5, r6⟩ := E3.out.r
          have r7 := E3.out.r.o1
          have r8 := E3.out.r.o2
          have o0 := X2.out.c0
          have o1 := X2.out.c1
          have o2 := X2.out.c2
          go_wp2_with fail
          refine bodyPost_ret (v := .tuple #[.agg #[.int .u64 0, .int .i64 1, .int .i64 0], .int .i64 0]) (by simp [results, Tryz.f111, go_sem, o0, o1, o2]) rfl ?_
          exact ⟨.inl ⟨0, by omega, hres.out, rfl, FIN.out.1⟩, FIN.out.2⟩
        · have hres : Hid (rcs (num l) l.length n 0 = rcs (num l) l.length n 1) := hc.out.trans (rcs_one (by omega) (by omega) (by omega))
          have hor : bits .or .u64 0 1 = 1 := by decide +kernel
          have P := hide (getR E1.out.rd 1 (ni := 1) (xi := 1) rfl hx rfl (by decide) (by omega))
          replace hx := hide hx
          replace hroom := hide hroom
          go_wp2_with fail
          refine P.out.mono ?_
          rintro e w2 ⟨rfl, R2, b2⟩
          have E2 := hide (E1.out.get b2 R2)
          have X2' := X1.out.but b2 hgp.out
          clear P x0 x1 x2 R2 b2 E1 E X1
          have y0 := X2'.c0
          have y1 := X2'.c1
          have y2 := X2'.c2
          go_wp2_with fail
          go_quiet (fail)
          have E3 := hide (E2.out.drewN nq)
          go_wp2_with fail
          go_roundw
          case rel => exact ⟨1, by omega, rfl, rfl, by go_num, hres, E3⟩
          case measure => simp [intOf]
      · have hres : Hid (rcs (num l) l.length n 0 = none) := hc.out.trans (rcs_none (by omega) (by omega))
        have P := hide (getR_bits E1.out.rd 1 (ni := 1) rfl (by decide) (by omega))
        replace hroom := hide hroom
        go_wp2_with fail
        refine P.out.mono ?_
        rintro e w2 ⟨rfl, j, rfl⟩
        have E2 := hide (E1.out.drewN j)
        clear P x0 x1 x2 E1 E X1
        have FIN := hide (E2.out.done (Nat.le_refl _) hnf.out (.int .u64 0) (.int .i64 0) (.int .i64 0))
        have X2 := hide (E2.out.r.set (.int .u64 0) (.int .i64 0) (.int .i64 0))
        obtain ⟨r0, r1, r2, r3, r4, r5, r6⟩ := E2.out.r
        have r7 := E2.out.r.o1
        have r8 := E2.out.r.o2
        have o0 := X2.out.c0
        have o1 := X2.out.c1
        have o2 := X2.out.c2
        go_wp2_with fail
        refine bodyPost_ret (v := .tuple #[.agg #[.int .u64 0, .int .i64 0, .int .i64 0], .int .i64 50]) (by simp [results, Tryz.f111, go_sem, o0, o1, o2]) rfl ?_
        exact ⟨.inr ⟨hres.out, rfl⟩, FIN.out.2⟩
    · simp only [show ((1 : Nat) : Int) = 1 from rfl, show ((2 ^ 1 - 1 : Nat) : Int) = 1 from rfl]
      have hix := index1
      have E1 := hide (E.out.below ((Below.refl wr.heap.size wr).alloc (Nat.le_refl _) (.cells #[.int .u64 2, .int .i64 2, .int .i64 7] 145)))
      have X1 := hide (Box3.new wr (.int .u64 2) (.int .i64 2) (.int .i64 7) 145)
      have x0 := X1.out.c0
      have x1 := X1.out.c1
      have x2 := X1.out.c2
      have hgp : Hid (wr.heap.size ≠ p) := by have := E.out.rd.lt; show _ ≠ _; omega
      by_cases hroom : n + 1 + 1 ≤ 8 * l.length
      · have hb2 := bit_lt (num l) l.length (n + 1)
        have hcases : rd (num l) l.length (n + 1) 1 = 0 ∨ rd (num l) l.length (n + 1) 1 = 1 := by omega
        rcases hcases with hx | hx
        · have hres : Hid (rcs (num l) l.length n 0 = some 1) := hc.out.trans (rcs_zero (by omega) (by omega) hx)
          have hor : bits .or .u64 2 0 = 2 := by decide +kernel
          have P := hide (getR E1.out.rd 1 (ni := 1) (xi := 0) rfl hx rfl (by decide) (by omega))
          replace hx := hide hx
          replace hroom := hide hroom
          go_wp2_with fail
          refine P.out.mono ?_
          rintro e w2 ⟨rfl, R2, b2⟩
          have E2 := hide (E1.out.get b2 R2)
          have X2' := X1.out.but b2 hgp.out
          clear P x0 x1 x2 R2 b2 E1 E X1
          have y0 := X2'.c0
          have y1 := X2'.c1
          have y2 := X2'.c2
          go_wp2_with fail
          go_quiet (fail)
          have E3 := hide (E2.out.drewN nq)
          have FIN := hide (E3.out.done (Nat.le_refl _) hnf.out (.int .u64 2) (.int .i64 2) (.int .i64 7))
          have X2 := hide (E3.out.r.set (.int .u64 2) (.int .i64 2) (.int .i64 7))
          obtain ⟨r0, r1, r2, r3, r4, r5, r6⟩ := E3.out.r
          have r7 := E3.out.r.o1
          have r8 := E3.out.r.o2
          have o0 := X2.out.c0
          have o1 := X2.out.c1
          have o2 := X2.out.c2
          go_wp2_with fail
          refine bodyPost_ret (v := .tuple #[.agg #[.int .u64 2, .int .i64 2, .int .i64 7], .int .i64 0]) (by simp [results, Tryz.f111, go_sem, o0, o1, o2]) rfl ?_
          exact ⟨.inl ⟨1, by omega, hres.out, rfl, FIN.out.1⟩, FIN.out.2⟩
        · have hres : Hid (rcs (num l) l.length n 0 = rcs (num l) l.length n 2) := hc.out.trans (rcs_one (by omega) (by omega) (by omega))
          have hor : bits .or .u64 2 1 = 3 := by decide +kernel
          have P := hide (getR E1.out.rd 1 (ni := 1) (xi := 1) rfl hx rfl (by decide) (by omega))
          replace hx := hide hx
          replace hroom := hide hroom
          go_wp2_with fail
          refine P.out.mono ?_
          rintro e w2 ⟨rfl, R2, b2⟩
          have E2 := hide (E1.out.get b2 R2)
          have X2' := X1.out.but b2 hgp.out
          clear P x0 x1 x2 R2 b2 E1 E X1
          have y0 := X2'.c0
          have y1 := X2'.c1
          have y2 := X2'.c2
          go_wp2_with fail
          go_quiet (fail)
          have E3 := hide (E2.out.drewN nq)
          go_wp2_with fail
          go_roundw
          case rel => exact ⟨2, by omega, rfl, rfl, by go_num, hres, E3⟩
          case measure => simp [intOf]
      · have hres : Hid (rcs (num l) l.length n 0 = none) := hc.out.trans (rcs_none (by omega) (by omega))
        have P := hide (getR_bits E1.out.rd 1 (ni := 1) rfl (by decide) (by omega))
        replace hroom := hide hroom
        go_wp2_with fail
        refine P.out.mono ?_
        rintro e w2 ⟨rfl, j, rfl⟩
        have E2 := hide (E1.out.drewN j)
        clear P x0 x1 x2 E1 E X1
        have FIN := hide (E2.out.done (Nat.le_refl _) hnf.out (.int .u64 0) (.int .i64 0) (.int .i64 0))
        have X2 := hide (E2.out.r.set (.int .u64 0) (.int .i64 0) (.int .i64 0))
        obtain ⟨r0, r1, r2, r3, r4, r5, r6⟩ := E2.out.r
        have r7 := E2.out.r.o1
        have r8 := E2.out.r.o2
        have o0 := X2.out.c0
        have o1 := X2.out.c1
        have o2 := X2.out.c2
        go_wp2_with fail
        refine bodyPost_ret (v := .tuple #[.agg #[.int .u64 0, .int .i64 0, .int .i64 0], .int .i64 50]) (by simp [results, Tryz.f111, go_sem, o0, o1, o2]) rfl ?_
        exact ⟨.inr ⟨hres.out, rfl⟩, FIN.out.2⟩
    · simp only [show ((2 : Nat) : Int) = 2 from rfl, show ((2 ^ 2 - 1 : Nat) : Int) = 3 from rfl]
      have hix := index2
      have E1 := hide (E.out.below ((Below.refl wr.heap.size wr).alloc (Nat.le_refl _) (.cells #[.int .u64 6, .int .i64 3, .int .i64 12] 145)))
      have X1 := hide (Box3.new wr (.int .u64 6) (.int .i64 3) (.int .i64 12) 145)
      have x0 := X1.out.c0
      have x1 := X1.out.c1
      have x2 := X1.out.c2
      have hgp : Hid (wr.heap.size ≠ p) := by have := E.out.rd.lt; show _ ≠ _; omega
      by_cases hroom : n + 2 + 1 ≤ 8 * l.length
      · have hb2 := bit_lt (num l) l.length (n + 2)
        have hcases : rd (num l) l.length (n + 2) 1 = 0 ∨ rd (num l) l.length (n + 2) 1 = 1 := by omega
        rcases hcases with hx | hx
        · have hres : Hid (rcs (num l) l.length n 0 = some 2) := hc.out.trans (rcs_zero (by omega) (by omega) hx)
          have hor : bits .or .u64 6 0 = 6 := by decide +kernel
          have P := hide (getR E1.out.rd 1 (ni := 1) (xi := 0) rfl hx rfl (by decide) (by omega))
          replace hx := hide hx
          replace hroom := hide hroom
          go_wp2_with fail
          refine P.out.mono ?_
          rintro e w2 ⟨rfl, R2, b2⟩
          have E2 := hide (E1.out.get b2 R2)
          have X2' := X1.out.but b2 hgp.out
          clear P x0 x1 x2 R2 b2 E1 E X1
          have y0 := X2'.c0
          have y1 := X2'.c1
          have y2 := X2'.c2
          go_wp2_with fail
          go_quiet (fail)
          have E3 := hide (E2.out.drewN nq)
          have FIN := hide (E3.out.done (Nat.le_refl _) hnf.out (.int .u64 6) (.int .i64 3) (.int .i64 12))
          have X2 := hide (E3.out.r.set (.int .u64 6) (.int .i64 3) (.int .i64 12))
          obtain ⟨r0, r1, r2, r3, r4, r5, r6⟩ := E3.out.r
          have r7 := E3.out.r.o1
          have r8 := E3.out.r.o2
          have o0 := X2.out.c0
          have o1 := X2.out.c1
          have o2 := X2.out.c2
          go_wp2_with fail
          refine bodyPost_ret (v := .tuple #[.agg #[.int .u64 6, .int .i64 3, .int .i64 12], .int .i64 0]) (by simp [results, Tryz.f111, go_sem, o0, o1, o2]) rfl ?_
          exact ⟨.inl ⟨2, by omega, hres.out, rfl, FIN.out.1⟩, FIN.out.2⟩
        · have hres : Hid (rcs (num l) l.length n 0 = rcs (num l) l.length n 3) := hc.out.trans (rcs_one (by omega) (by omega) (by omega))
          have hor : bits .or .u64 6 1 = 7 := by decide +kernel
          have P := hide (getR E1.out.rd 1 (ni := 1) (xi := 1) rfl hx rfl (by decide) (by omega))
          replace hx := hide hx
          replace hroom := hide hroom
          go_wp2_with fail
          refine P.out.mono ?_
          rintro e w2 ⟨rfl, R2, b2⟩
          have E2 := hide (E1.out.get b2 R2)
          have X2' := X1.out.but b2 hgp.out
          clear P x0 x1 x2 R2 b2 E1 E X1
          have y0 := X2'.c0
          have y1 := X2'.c1
          have y2 := X2'.c2
          go_wp2_with fail
          go_quiet (fail)
          have E3 := hide (E2.out.drewN nq)
          go_wp2_with fail
          go_roundw
          case rel => exact ⟨3, by omega, rfl, rfl, by go_num, hres, E3⟩
          case measure => simp [intOf]
      · have hres : Hid (rcs (num l) l.length n 0 = none) := hc.out.trans (rcs_none (by omega) (by omega))
        have P := hide (getR_bits E1.out.rd 1 (ni := 1) rfl (by decide) (by omega))
        replace hroom := hide hroom
        go_wp2_with fail
        refine P.out.mono ?_
        rintro e w2 ⟨rfl, j, rfl⟩
        have E2 := hide (E1.out.drewN j)
        clear P x0 x1 x2 E1 E X1
        have FIN := hide (E2.out.done (Nat.le_refl _) hnf.out (.int .u64 0) (.int .i64 0) (.int .i64 0))
        have X2 := hide (E2.out.r.set (.int .u64 0) (.int .i64 0) (.int .i64 0))
        obtain ⟨r0, r1, r2, r3, r4, r5, r6⟩ := E2.out.r
        have r7 := E2.out.r.o1
        have r8 := E2.out.r.o2
        have o0 := X2.out.c0
        have o1 := X2.out.c1
        have o2 := X2.out.c2
        go_wp2_with fail
        refine bodyPost_ret (v := .tuple #[.agg #[.int .u64 0, .int .i64 0, .int .i64 0], .int .i64 50]) (by simp [results, Tryz.f111, go_sem, o0, o1, o2]) rfl ?_
        exact ⟨.inr ⟨hres.out, rfl⟩, FIN.out.2⟩
    · simp only [show ((3 : Nat) : Int) = 3 from rfl, show ((2 ^ 3 - 1 : Nat) : Int) = 7 from rfl]
      have hix := index3
      have E1 := hide (E.out.below ((Below.refl wr.heap.size wr).alloc (Nat.le_refl _) (.cells #[.int .u64 14, .int .i64 4, .int .i64 20] 145)))
      have X1 := hide (Box3.new wr (.int .u64 14) (.int .i64 4) (.int .i64 20) 145)
      have x0 := X1.out.c0
      have x1 := X1.out.c1
      have x2 := X1.out.c2
      have hgp : Hid (wr.heap.size ≠ p) := by have := E.out.rd.lt; show _ ≠ _; omega
      by_cases hroom : n + 3 + 1 ≤ 8 * l.length
      · have hb2 := bit_lt (num l) l.length (n + 3)
        have hcases : rd (num l) l.length (n + 3) 1 = 0 ∨ rd (num l) l.length (n + 3) 1 = 1 := by omega
        rcases hcases with hx | hx
        · have hres : Hid (rcs (num l) l.length n 0 = some 3) := hc.out.trans (rcs_zero (by omega) (by omega) hx)
          have hor : bits .or .u64 14 0 = 14 := by decide +kernel
          have P := hide (getR E1.out.rd 1 (ni := 1) (xi := 0) rfl hx rfl (by decide) (by omega))
          replace hx := hide hx
          replace hroom := hide hroom
          go_wp2_with fail
          refine P.out.mono ?_
          rintro e w2 ⟨rfl, R2, b2⟩
          have E2 := hide (E1.out.get b2 R2)
          have X2' := X1.out.but b2 hgp.out
          clear P x0 x1 x2 R2 b2 E1 E X1
          have y0 := X2'.c0
          have y1 := X2'.c1
          have y2 := X2'.c2
          go_wp2_with fail
          go_quiet (fail)
          have E3 := hide (E2.out.drewN nq)
          have FIN := hide (E3.out.done (Nat.le_refl _) hnf.out (.int .u64 14) (.int .i64 4) (.int .i64 20))
          have X2 := hide (E3.out.r.set (.int .u64 14) (.int .i64 4) (.int .i64 20))
          obtain ⟨r0, r1, r2, r3, r4, r5, r6⟩ := E3.out.r
          have r7 := E3.out.r.o1
          have r8 := E3.out.r.o2
          have o0 := X2.out.c0
          have o1 := X2.out.c1
          have o2 := X2.out.c2
          go_wp2_with fail
          refine bodyPost_ret (v := .tuple #[.agg #[.int .u64 14, .int .i64 4, .int .i64 20], .int .i64 0]) (by simp [results, Tryz.f111, go_sem, o0, o1, o2]) rfl ?_
          exact ⟨.inl ⟨3, by omega, hres.out, rfl, FIN.out.1⟩, FIN.out.2⟩
        · have hres : Hid (rcs (num l) l.length n 0 = rcs (num l) l.length n 4) := hc.out.trans (rcs_one (by omega) (by omega) (by omega))
          have hor : bits .or .u64 14 1 = 15 := by decide +kernel
          have P := hide (getR E1.out.rd 1 (ni := 1) (xi := 1) rfl hx rfl (by decide) (by omega))
          replace hx := hide hx
          replace hroom := hide hroom
          go_wp2_with fail
          refine P.out.mono ?_
          rintro e w2 ⟨rfl, R2, b2⟩
          have E2 := hide (E1.out.get b2 R2)
          have X2' := X1.out.but b2 hgp.out
          clear P x0 x1 x2 R2 b2 E1 E X1
          have y0 := X2'.c0
          have y1 := X2'.c1
          have y2 := X2'.c2
          go_wp2_with fail
          go_quiet (fail)
          have E3 := hide (E2.out.drewN nq)
          go_wp2_with fail
          go_roundw
          case rel => exact ⟨4, by omega, rfl, rfl, by go_num, hres, E3⟩
          case measure => simp [intOf]
      · have hres : Hid (rcs (num l) l.length n 0 = none) := hc.out.trans (rcs_none (by omega) (by omega))
        have P := hide (getR_bits E1.out.rd 1 (ni := 1) rfl (by decide) (by omega))
        replace hroom := hide hroom
        go_wp2_with fail
        refine P.out.mono ?_
        rintro e w2 ⟨rfl, j, rfl⟩
        have E2 := hide (E1.out.drewN j)
        clear P x0 x1 x2 E1 E X1
        have FIN := hide (E2.out.done (Nat.le_refl _) hnf.out (.int .u64 0) (.int .i64 0) (.int .i64 0))
        have X2 := hide (E2.out.r.set (.int .u64 0) (.int .i64 0) (.int .i64 0))
        obtain ⟨r0, r1, r2, r3, r4, r5, r6⟩ := E2.out.r
        have r7 := E2.out.r.o1
        have r8 := E2.out.r.o2
        have o0 := X2.out.c0
        have o1 := X2.out.c1
        have o2 := X2.out.c2
        go_wp2_with fail
        refine bodyPost_ret (v := .tuple #[.agg #[.int .u64 0, .int .i64 0, .int .i64 0], .int .i64 50]) (by simp [results, Tryz.f111, go_sem, o0, o1, o2]) rfl ?_
        exact ⟨.inr ⟨hres.out, rfl⟩, FIN.out.2⟩
    · simp only [show ((4 : Nat) : Int) = 4 from rfl, show ((2 ^ 4 - 1 : Nat) : Int) = 15 from rfl]
      have hix := index4
      have E1 := hide (E.out.below ((Below.refl wr.heap.size wr).alloc (Nat.le_refl _) (.cells #[.int .u64 15, .int .i64 4, .int .i64 48] 145)))
      have X1 := hide (Box3.new wr (.int .u64 15) (.int .i64 4) (.int .i64 48) 145)
      have x0 := X1.out.c0
      have x1 := X1.out.c1
      have x2 := X1.out.c2
      have hgp : Hid (wr.heap.size ≠ p) := by have := E.out.rd.lt; show _ ≠ _; omega
      have hres : Hid (rcs (num l) l.length n 0 = some 4) := hc.out.trans (rcs_four _ _ _)
      have hx := rd_zero (num l) l.length (n + 4)
      have hroom := E1.out.rd.2.2.2
      have hor : bits .or .u64 15 0 = 15 := by decide +kernel
      have P := hide (getR E1.out.rd 0 (ni := 0) (xi := 0) rfl hx rfl (by decide) (by omega))
      replace hx := hide hx
      replace hroom := hide hroom
      go_wp2_with fail
      refine P.out.mono ?_
      rintro e w2 ⟨rfl, R2, b2⟩
      have E2 := hide (E1.out.get b2 R2)
      have X2' := X1.out.but b2 hgp.out
      clear P x0 x1 x2 R2 b2 E1 E X1
      have y0 := X2'.c0
      have y1 := X2'.c1
      have y2 := X2'.c2
      go_wp2_with fail
      go_quiet (fail)
      have E3 := hide (E2.out.drewN nq)
      have FIN := hide (E3.out.done (Nat.le_refl _) hnf.out (.int .u64 15) (.int .i64 4) (.int .i64 48))
      have X2 := hide (E3.out.r.set (.int .u64 15) (.int .i64 4) (.int .i64 48))
      obtain ⟨r0, r1, r2, r3, r4, r5, r6⟩ := E3.out.r
      have r7 := E3.out.r.o1
      have r8 := E3.out.r.o2
      have o0 := X2.out.c0
      have o1 := X2.out.c1
      have o2 := X2.out.c2
      go_wp2_with fail
      refine bodyPost_ret (v := .tuple #[.agg #[.int .u64 15, .int .i64 4, .int .i64 48], .int .i64 0]) (by simp [results, Tryz.f111, go_sem, o0, o1, o2]) rfl ?_
      exact ⟨.inl ⟨4, by omega, hres.out, rfl, FIN.out.1⟩, FIN.out.2⟩

end Go.Proofs.YtmjjedbdedemcaaGreatDoor
