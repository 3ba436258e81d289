/-
  A writer beside a box of a state; what stamp.Put refuses; the chapter's example.
-/
import Derived.Test.YtpopkoedeckfoaaDoorSF
import Derived.Laws.StructEq
namespace Go.Proofs.YtpopkoedeckfoaaDoor
open Go.RowKit
set_option linter.unusedVariables false
set_option linter.unusedSimpArgs false

theorem putSi {w : World} {base p A n0 : Nat} {v : Value} (h : Wr w base p v A n0) (hT : Tab w) (hb0 : 0 < base) {n L D t X Y : Nat} {ni li di ti ni' qi : Int} (hs : OkS n L D) (ht : OkT n L (t : Int)) (hroom : n0 + 52 ≤ 524288)
    (e1 : (n : Int) = ni) (e2 : (L : Int) = li) (e3 : (D : Int) = di) (e4 : (t : Int) = ti) (e5 : ((n + 1 : Nat) : Int) = ni') (e6 : ((dl n L t : Nat) : Int) = qi) (hY : cdN n L D t = Y) (hX : cdX n L D t = X) :
    Calls Tryd.prog 13 #[.pointer (some ⟨p, 0, none⟩), .agg #[.int .i64 ni, .int .i64 li, .int .i64 di], .int .i64 ti] w fun e w' =>
      e = .returned (.tuple #[.agg #[.int .i64 ni', .int .i64 ti, .int .i64 qi], .int .i64 0]) ∧ ∃ v', Wr w' base p v' (A * 2 ^ Y + X) (n0 + Y) ∧ Did w w' base p v v' := by
  subst e1 e2 e3 e4 e5 e6 hY hX
  exact putS h hT hb0 hs ht hroom

theorem held23 : Tryd.prog.stoodInHeld 23 = false := by kernel_rfl
theorem held36 : Tryd.prog.stoodInHeld 36 = false := by kernel_rfl
theorem held96 : Tryd.prog.stoodInHeld 96 = false := by kernel_rfl
theorem under23 : Tryd.prog.underlying 23 = some (.struct (Tryd.prog.fieldsOf 23)) := by kernel_rfl
theorem under36 : Tryd.prog.underlying 36 = some (.struct (Tryd.prog.fieldsOf 36)) := by kernel_rfl
theorem under96 : Tryd.prog.underlying 96 = some (.struct (Tryd.prog.fieldsOf 96)) := by kernel_rfl
theorem dec3 (x0 x1 x2 y0 y1 y2 : Int) : (x0 == y0 && (x1 == y1 && x2 == y2)) = decide (x0 = y0 ∧ x1 = y1 ∧ x2 = y2) := by
  by_cases h0 : x0 = y0 <;> by_cases h1 : x1 = y1 <;> by_cases h2 : x2 = y2 <;> simp [h0, h1, h2]
theorem run_eql23 (x0 x1 x2 y0 y1 y2 : Int) (w : World) : (binOp .eql 23 (.agg #[.int .i64 x0, .int .i64 x1, .int .i64 x2]) (.agg #[.int .i64 y0, .int .i64 y1, .int .i64 y2])).run Tryd.prog w = .ok (.bool (decide (x0 = y0 ∧ x1 = y1 ∧ x2 = y2))) w := by
  rw [run_eql_struct, run_equalIn_agg w 9999 23 _ _ under23 held23]
  have hs : ∀ w, (sizeOf 3).run Tryd.prog w = .ok 1 w := fun w => by kernel_rfl
  have hs2 : ∀ w, (sizeOf 33).run Tryd.prog w = .ok 1 w := fun w => by kernel_rfl
  have hu := Tryd.underlying3
  have hu2 := Tryd.underlying33
  rw [show (Tryd.prog.fieldsOf 23).toList = _ from rfl]
  simp [Op.eqFields, go_sem]
  by_cases h0 : x0 = y0 <;> by_cases h1 : x1 = y1 <;> by_cases h2 : x2 = y2 <;> simp [h0, h1, h2]
theorem run_neq23 (x0 x1 x2 y0 y1 y2 : Int) (w : World) : (binOp .neq 23 (.agg #[.int .i64 x0, .int .i64 x1, .int .i64 x2]) (.agg #[.int .i64 y0, .int .i64 y1, .int .i64 y2])).run Tryd.prog w = .ok (.bool (!decide (x0 = y0 ∧ x1 = y1 ∧ x2 = y2))) w := by
  rw [run_neq_struct, run_equalIn_agg w 9999 23 _ _ under23 held23]
  have hs : ∀ w, (sizeOf 3).run Tryd.prog w = .ok 1 w := fun w => by kernel_rfl
  have hs2 : ∀ w, (sizeOf 33).run Tryd.prog w = .ok 1 w := fun w => by kernel_rfl
  have hu := Tryd.underlying3
  have hu2 := Tryd.underlying33
  rw [show (Tryd.prog.fieldsOf 23).toList = _ from rfl]
  simp [Op.eqFields, go_sem]
  by_cases h0 : x0 = y0 <;> by_cases h1 : x1 = y1 <;> by_cases h2 : x2 = y2 <;> simp [h0, h1, h2]
theorem run_eql36 (x0 x1 x2 y0 y1 y2 : Int) (w : World) : (binOp .eql 36 (.agg #[.int .i64 x0, .int .i64 x1, .int .i64 x2]) (.agg #[.int .i64 y0, .int .i64 y1, .int .i64 y2])).run Tryd.prog w = .ok (.bool (decide (x0 = y0 ∧ x1 = y1 ∧ x2 = y2))) w := by
  rw [run_eql_struct, run_equalIn_agg w 9999 36 _ _ under36 held36]
  have hs : ∀ w, (sizeOf 3).run Tryd.prog w = .ok 1 w := fun w => by kernel_rfl
  have hs2 : ∀ w, (sizeOf 33).run Tryd.prog w = .ok 1 w := fun w => by kernel_rfl
  have hu := Tryd.underlying3
  have hu2 := Tryd.underlying33
  rw [show (Tryd.prog.fieldsOf 36).toList = _ from rfl]
  simp [Op.eqFields, go_sem]
  by_cases h0 : x0 = y0 <;> by_cases h1 : x1 = y1 <;> by_cases h2 : x2 = y2 <;> simp [h0, h1, h2]
theorem run_neq96 (x0 x1 x2 y0 y1 y2 : Int) (w : World) : (binOp .neq 96 (.agg #[.int .u64 x0, .int .i64 x1, .int .i64 x2]) (.agg #[.int .u64 y0, .int .i64 y1, .int .i64 y2])).run Tryd.prog w = .ok (.bool (!decide (x0 = y0 ∧ x1 = y1 ∧ x2 = y2))) w := by
  rw [run_neq_struct, run_equalIn_agg w 9999 96 _ _ under96 held96]
  have hs : ∀ w, (sizeOf 3).run Tryd.prog w = .ok 1 w := fun w => by kernel_rfl
  have hs2 : ∀ w, (sizeOf 33).run Tryd.prog w = .ok 1 w := fun w => by kernel_rfl
  have hu := Tryd.underlying3
  have hu2 := Tryd.underlying33
  rw [show (Tryd.prog.fieldsOf 96).toList = _ from rfl]
  simp [Op.eqFields, go_sem]
  by_cases h0 : x0 = y0 <;> by_cases h1 : x1 = y1 <;> by_cases h2 : x2 = y2 <;> simp [h0, h1, h2]

/-- A writer, beside a box at g. -/
structure WB (w0 w : World) (base p g : Nat) (v0 v : Value) (A k : Nat) (a b c : Value) : Prop where
  s : Box3 w g a b c
  t : Tab w
  wr : Wr w base p v A k
  d : Did w0 w base p v0 v
  ns : ¬ fp p v g
  b0 : 0 < base
  bg : base ≤ g
theorem WB.below {w0 w w' : World} {base p g : Nat} {v0 v : Value} {A k : Nat} {a b c : Value} (h : WB w0 w base p g v0 v A k a b c) (hb : Below w.heap.size w w') : WB w0 w' base p g v0 v A k a b c :=
  ⟨h.s.kept hb h.s.lt, h.t.kept hb h.t.pos, h.wr.below hb (Nat.le_refl _), h.d.post hb (by have := h.wr.lt; omega), h.ns, h.b0, h.bg⟩
theorem WB.put {w0 w w' : World} {base p g : Nat} {v0 v v' : Value} {A k A' k' : Nat} {a b c : Value} (h : WB w0 w base p g v0 v A k a b c) (d : Did w w' base p v v') (hw : Wr w' base p v' A' k') : WB w0 w' base p g v0 v' A' k' a b c :=
  ⟨h.s.did d h.ns, h.t.kept d.bel h.b0, hw, h.d.trans d, d.not h.s.lt h.ns, h.b0, h.bg⟩
theorem but3 (w : World) (g : Nat) (x y z : Value) : But (fun i => i = g) w (((w.setCell ⟨g, 0, none⟩ x).setCell ⟨g, 1, none⟩ y).setCell ⟨g, 2, none⟩ z) :=
  (((But.refl (fun i => i = g) w).setCell (p := ⟨g, 0, none⟩) (fun _ => rfl) x).setCell (p := ⟨g, 1, none⟩) (fun _ => rfl) y).setCell (p := ⟨g, 2, none⟩) (fun _ => rfl) z
/-- The box is written. -/
theorem WB.set {w0 w : World} {base p g : Nat} {v0 v : Value} {A k : Nat} {a b c : Value} (h : WB w0 w base p g v0 v A k a b c) (hg : w0.heap.size ≤ g) (x y z : Value) :
    WB w0 (((w.setCell ⟨g, 0, none⟩ x).setCell ⟨g, 1, none⟩ y).setCell ⟨g, 2, none⟩ z) base p g v0 v A k x y z := by
  have hbt := but3 w g x y z
  have hbel : Below base w (((w.setCell ⟨g, 0, none⟩ x).setCell ⟨g, 1, none⟩ y).setCell ⟨g, 2, none⟩ z) := hbt.below (by have := h.wr.lt; omega) (fun i hi => by rw [hi]; exact h.bg)
  refine ⟨h.s.set x y z, h.t.kept hbel h.b0, ?_, ⟨h.d.bel.trans hbel, h.d.but.trans hbt (fun i hi e => by omega), h.d.own⟩, h.ns, h.b0, h.bg⟩
  obtain ⟨m, O, H⟩ := h.wr
  exact ⟨m, O.kept hbt (fun i hi => by rw [hi]; exact h.ns), H⟩
theorem WB.start {w w1 : World} {base p A k g : Nat} {v v1 : Value} (d : Did w w1 base p v v1) (h : Wr w1 base p v1 A k) (hT : Tab w1) (hb0 : 0 < base) (a b c : Value) (hg : g = w1.heap.size) : WB w (w1.alloc (.cells #[a, b, c] 23)) base p g v v1 A k a b c := by
  subst hg
  have B0 : Below w1.heap.size w1 (w1.alloc (.cells #[a, b, c] 23)) := (Below.refl _ w1).alloc (Nat.le_refl _) _
  have hlt := h.lt
  exact ⟨Box3.new w1 _ _ _ 23, hT.kept B0 hT.pos, h.below B0 (Nat.le_refl _), d.post B0 (by omega), h.not (Nat.le_refl _), hb0, by omega⟩

set_option maxHeartbeats 2000000 in
theorem putS_no {w : World} {base p A n0 : Nat} {v : Value} (h : Wr w base p v A n0) (hT : Tab w) (hb0 : 0 < base) (n l d t : Int) (hno : (okSI n l d && okTI n l t) = false) (hroom : n0 ≤ 524288) :
    Calls Tryd.prog 13 #[.pointer (some ⟨p, 0, none⟩), .agg #[.int .i64 n, .int .i64 l, .int .i64 d], .int .i64 t] w fun e w' =>
      e = .returned (.tuple #[.agg #[.int .i64 0, .int .i64 0, .int .i64 0], .int .i64 60]) ∧ ∃ v', Wr w' base p v' A n0 ∧ Did w w' base p v v' := by
  have E1 := hide (PS.start h hT hb0 (.int .i64 n) (.int .i64 l) (.int .i64 d))
  have P1 := hide (putWr E1.out.wr 0 0 (by decide) (by decide) (by omega))
  have hz23 := zero23
  clear h hT
  go_enter Tryd.func13, Tryd.ntmps13
  go_wp2_with fail
  refine P1.out.mono ?_
  rintro e w2 ⟨rfl, v2, W2, D2⟩
  simp only [Nat.pow_zero, Nat.mul_one, Nat.mod_one, Nat.add_zero] at W2
  have E2 := hide (E1.out.put D2 W2)
  have M := hide (mayBe_any n l d w2)
  have s0 := E2.out.s.c0
  have s1 := E2.out.s.c1
  have s2 := E2.out.s.c2
  clear P1 E1 D2 W2
  cases hsi : okSI n l d <;> rw [hsi] at M hno
  · go_wp2_with fail
    refine M.out.mono ?_
    rintro e w3 ⟨rfl, b3⟩
    have E7 := hide (E2.out.below b3)
    clear s0 s1 s2 M E2 b3
    have FIN := hide (done3 E7.out (Nat.le_refl _) (.int .i64 0) (.int .i64 0) (.int .i64 0))
    have X2 := hide (E7.out.r.set (.int .i64 0) (.int .i64 0) (.int .i64 0))
    obtain ⟨r0, r1, r2, r3, r4, r5, r6⟩ := E7.out.r
    have r7 := E7.out.r.o1
    have r8 := E7.out.r.o2
    have o0 := X2.out.c0
    have o1 := X2.out.c1
    have o2 := X2.out.c2
    go_wp2_with fail
    refine bodyPost_ret (v := .tuple #[.agg #[.int .i64 0, .int .i64 0, .int .i64 0], .int .i64 60]) (by simp [results, Tryd.f13, go_sem, o0, o1, o2]) rfl ?_
    exact ⟨rfl, v2, FIN.out.1, FIN.out.2⟩
  · have hti : okTI n l t = false := by simpa using hno
    go_wp2_with fail
    refine M.out.mono ?_
    rintro e w3 ⟨rfl, b3⟩
    have E3 := hide (E2.out.below b3)
    have F := hide (mayFollow_any n l d t w3)
    rw [hti] at F
    clear s0 s1 s2 M E2 b3 hti hsi hno
    have s0 := E3.out.s.c0
    have s1 := E3.out.s.c1
    have s2 := E3.out.s.c2
    go_wp2_with fail
    refine F.out.mono ?_
    rintro e w4 ⟨rfl, b4⟩
    have E7 := hide (E3.out.below b4)
    clear s0 s1 s2 F E3 b4
    have FIN := hide (done3 E7.out (Nat.le_refl _) (.int .i64 0) (.int .i64 0) (.int .i64 0))
    have X2 := hide (E7.out.r.set (.int .i64 0) (.int .i64 0) (.int .i64 0))
    obtain ⟨r0, r1, r2, r3, r4, r5, r6⟩ := E7.out.r
    have r7 := E7.out.r.o1
    have r8 := E7.out.r.o2
    have o0 := X2.out.c0
    have o1 := X2.out.c1
    have o2 := X2.out.c2
    go_wp2_with fail
    refine bodyPost_ret (v := .tuple #[.agg #[.int .i64 0, .int .i64 0, .int .i64 0], .int .i64 60]) (by simp [results, Tryd.f13, go_sem, o0, o1, o2]) rfl ?_
    exact ⟨rfl, v2, FIN.out.1, FIN.out.2⟩

set_option maxHeartbeats 2000000 in
theorem works_any (w : World) (hT : Tab w) : Calls Tryd.prog 19 #[] w fun e w' => e = .returned (.bool true) ∧ Below w.heap.size w w' := by
  have hpos := hide hT.pos
  have N := hide (newWr w w.heap.size (Nat.le_refl _))
  have hz23 := zero23
  have heq := run_eql23
  replace hT := hide hT
  go_enter Tryd.func19, Tryd.ntmps19
  go_wp2_with fail
  refine N.out.mono ?_
  rintro e w1 ⟨p, rfl, b1, W1, -⟩
  have T1 := hT.out.kept b1 hpos.out
  have P1 := hide (putSi (n := 0) (L := 0) (D := 0) (t := 10) (ni := 0) (li := 0) (di := 0) (ti := 10) (ni' := 1) (qi := 0) W1 T1 hpos.out ⟨by decide, by decide, by decide⟩ ⟨by decide, by decide, .inl rfl⟩ (by decide) rfl rfl rfl rfl rfl rfl (Y := 46) (by decide) rfl)
  replace b1 := hide b1
  replace T1 := hide T1
  clear N W1 hT
  go_wp2_with fail
  refine P1.out.mono ?_
  rintro e w2 ⟨rfl, v2, W2, D2⟩
  obtain ⟨A2, hA2⟩ : ∃ A, Wr w2 w.heap.size p v2 A 46 := ⟨_, W2⟩
  have E2 := hide (WB.start D2 hA2 (T1.out.kept D2.bel hpos.out) hpos.out (.int .i64 1) (.int .i64 10) (.int .i64 0) rfl)
  have L2 := hide (lenWr E2.out.wr)
  have P2 := hide (putSi (n := 1) (L := 10) (D := 0) (t := 20) (ni := 1) (li := 10) (di := 0) (ti := 20) (ni' := 2) (qi := 10) E2.out.wr E2.out.t hpos.out ⟨by decide, by decide, by decide⟩ ⟨by decide, by decide, .inr (by decide)⟩ (by decide) rfl rfl rfl rfl rfl rfl (Y := 9) (by decide) rfl)
  have hg2 : Hid (w1.heap.size ≤ w2.heap.size) := D2.bel.size
  replace D2 := hide D2
  clear P1 W2 T1 hA2
  go_wp2_with (go_at_call 18; refine L2.out.mono ?_; rintro e wq ⟨rfl, rfl⟩)
  refine P2.out.mono ?_
  rintro e w3 ⟨rfl, v3, W3, D3⟩
  obtain ⟨A3, hA3⟩ : ∃ A, Wr w3 w.heap.size p v3 A 55 := ⟨_, W3⟩
  have E3 := hide (E2.out.put D3 hA3)
  have E3' := hide (E3.out.set hg2.out (.int .i64 2) (.int .i64 20) (.int .i64 10))
  have L3 := hide (lenWr E3'.out.wr)
  have P3 := hide (putSi (n := 2) (L := 20) (D := 10) (t := 30) (ni := 2) (li := 20) (di := 10) (ti := 30) (ni' := 3) (qi := 10) E3'.out.wr E3'.out.t hpos.out ⟨by decide, by decide, by decide⟩ ⟨by decide, by decide, .inr (by decide)⟩ (by decide) rfl rfl rfl rfl rfl rfl (Y := 1) (by decide) rfl)
  obtain ⟨r0, r1, r2, r3, r4, r5, r6⟩ := E3.out.s
  have r7 := E3.out.s.o1
  have r8 := E3.out.s.o2
  have o0 := E3'.out.s.c0
  have o1 := E3'.out.s.c1
  have o2 := E3'.out.s.c2
  clear P2 L2 E2 W3 D3 hA3
  go_wp2_with (go_at_call 18; refine L3.out.mono ?_; rintro e wq ⟨rfl, rfl⟩)
  refine P3.out.mono ?_
  rintro e w4 ⟨rfl, v4, W4, D4⟩
  obtain ⟨A4, hA4⟩ : ∃ A, Wr w4 w.heap.size p v4 A 56 := ⟨_, W4⟩
  have E4 := hide (E3'.out.put D4 hA4)
  have E4' := hide (E4.out.set hg2.out (.int .i64 3) (.int .i64 30) (.int .i64 10))
  have L4 := hide (lenWr E4'.out.wr)
  clear r0 r1 r2 r3 r4 r5 r6 r7 r8 o0 o1 o2 P3 L3 W4 D4 hA4 E3 E3'
  obtain ⟨r0, r1, r2, r3, r4, r5, r6⟩ := E4.out.s
  have r7 := E4.out.s.o1
  have r8 := E4.out.s.o2
  have o0 := E4'.out.s.c0
  have o1 := E4'.out.s.c1
  have o2 := E4'.out.s.c2
  go_wp2_with (go_at_call 18; refine L4.out.mono ?_; rintro e wq ⟨rfl, rfl⟩)
  go_ret
  exact ⟨rfl, b1.out.trans E4'.out.d.bel⟩
end Go.Proofs.YtpopkoedeckfoaaDoor
