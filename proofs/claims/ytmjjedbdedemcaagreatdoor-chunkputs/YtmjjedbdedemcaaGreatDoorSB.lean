/-
  stamp.Put.
-/
import Derived.Test.YtmjjedbdedemcaaGreatDoorSA
import Derived.Laws.StructEq
namespace Go.Proofs.YtmjjedbdedemcaaGreatDoor
open Go.RowKit
set_option linter.unusedVariables false

set_option linter.unusedSimpArgs false

theorem okSI_of {n L D : Nat} (h : OkS n L D) : okSI (n : Int) (L : Int) (D : Int) = true := by
  have := h.n; have := h.l; have := h.d
  simp [okSI, isCnt, isTim]; omega
theorem okTI_of {n L : Nat} {t : Int} (h : OkT n L t) : okTI (n : Int) (L : Int) t = true := by
  have := h.ge; have := h.le; have := h.up
  simp [okTI, isTim]; omega
theorem okS_of {n l d : Int} (h : okSI n l d = true) : ∃ n' l' d' : Nat, n = (n' : Int) ∧ l = (l' : Int) ∧ d = (d' : Int) ∧ OkS n' l' d' := by
  simp [okSI, isCnt, isTim] at h
  exact ⟨n.toNat, l.toNat, d.toNat, by omega, by omega, by omega, by omega, by omega, by omega⟩
theorem okT_of {n L : Nat} {t : Int} (h : okTI (n : Int) (L : Int) t = true) : OkT n L t := by
  simp [okTI, isTim] at h
  exact ⟨by omega, by omega, by omega⟩

theorem Did.pre {w w1 w2 : World} {base p : Nat} {v v' : Value} (hb : Below w.heap.size w w1) (d : Did w1 w2 base p v v') (hbase : base ≤ w.heap.size) : Did w w2 base p v v' :=
  ⟨(hb.mono hbase).trans d.bel, (but_of_below hb (fun _ => False) (fun k h1 h2 => by omega) |>.mono (fun _ h => h.elim)).trans d.but (fun _ _ h => h), fun i hi h => d.own i (Nat.lt_of_lt_of_le hi hb.size) h⟩
theorem Did.post {w w1 w2 : World} {base p : Nat} {v v' : Value} (d : Did w w1 base p v v') (hb : Below w1.heap.size w1 w2) (hbase : base ≤ w1.heap.size) : Did w w2 base p v v' :=
  ⟨d.bel.trans (hb.mono hbase), d.but.trans (but_of_below hb (fun _ => False) (fun k h1 h2 => by omega)) (fun _ _ h => h.elim), d.own⟩
theorem Did.trans {w w1 w2 : World} {base p : Nat} {v v1 v2 : Value} (d : Did w w1 base p v v1) (e : Did w1 w2 base p v1 v2) : Did w w2 base p v v2 :=
  ⟨d.bel.trans e.bel, d.but.trans e.but (fun i hi h => by
    rcases h with h | h
    · exact .inl h
    · exact .inr (d.own i hi h)), fun i hi h => d.own i hi (e.own i (Nat.lt_of_lt_of_le hi d.bel.size) h)⟩
theorem Did.not {w w1 : World} {base p g : Nat} {v v1 : Value} (d : Did w w1 base p v v1) (hg : g < w.heap.size) (hn : ¬ fp p v g) : ¬ fp p v1 g := fun h => by
  rcases h with h | h
  · exact hn (.inl h)
  · exact hn (.inr (d.own g hg h))

theorem Box3.same {w w' : World} {g : Nat} {x y z : Value} (h : Box3 w g x y z) (hb : w'.heap[g]? = w.heap[g]?) (hs : w.heap.size ≤ w'.heap.size) : Box3 w' g x y z := by
  obtain ⟨h0, h1, h2, h3, h4, h5, h6⟩ := h
  refine ⟨?_, ?_, ?_, ?_, ?_, ?_, by omega⟩
  · unfold World.cell? at h0 ⊢; simp only [hb]; exact h0
  · unfold World.cell? at h1 ⊢; simp only [hb]; exact h1
  · unfold World.cell? at h2 ⊢; simp only [hb]; exact h2
  · unfold World.frozen? at h3 ⊢; simp only [hb]; exact h3
  · unfold World.frozen? at h4 ⊢; simp only [hb]; exact h4
  · unfold World.frozen? at h5 ⊢; simp only [hb]; exact h5
theorem Box3.did {w w1 : World} {base p g : Nat} {v v1 x y z : Value} (h : Box3 w g x y z) (d : Did w w1 base p v v1) (hn : ¬ fp p v g) : Box3 w1 g x y z := h.same (d.but.block g h.lt hn) d.bel.size
theorem Box3.new_at {w : World} {g : Nat} (hg : g = w.heap.size) (x y z : Value) (t : TypeId) : Box3 (w.alloc (.cells #[x, y, z] t)) g x y z := by subst hg; exact Box3.new w x y z t

theorem Wr.not {w : World} {base p A n g : Nat} {v : Value} (h : Wr w base p v A n) (hg : w.heap.size ≤ g) : ¬ fp p v g := fun hf => by
  obtain ⟨m, O, H⟩ := h
  have := (O.fplt g hf).2
  omega

/-- How things stand within Put: the box of the state at g, the result's box behind it, the writer. -/
structure PS (w0 w : World) (base p g : Nat) (v0 v : Value) (A k : Nat) (a b c : Value) : Prop where
  s : Box3 w g a b c
  r : Box3 w (g + 1) (.int .i64 0) (.int .i64 0) (.int .i64 0)
  t : TabS w
  wr : Wr w base p v A k
  d : Did w0 w base p v0 v
  ns : ¬ fp p v g
  nr : ¬ fp p v (g + 1)
  b0 : 0 < base
  bw : base ≤ w0.heap.size
theorem PS.below {w0 w w' : World} {base p g : Nat} {v0 v : Value} {A k : Nat} {a b c : Value} (h : PS w0 w base p g v0 v A k a b c) (hb : Below w.heap.size w w') : PS w0 w' base p g v0 v A k a b c :=
  ⟨h.s.kept hb h.s.lt, h.r.kept hb h.r.lt, h.t.kept hb h.t.pos, h.wr.below hb (Nat.le_refl _), h.d.post hb (by have := h.wr.lt; omega), h.ns, h.nr, h.b0, h.bw⟩
theorem PS.put {w0 w w' : World} {base p g : Nat} {v0 v v' : Value} {A k A' k' : Nat} {a b c : Value} (h : PS w0 w base p g v0 v A k a b c) (d : Did w w' base p v v') (hw : Wr w' base p v' A' k') : PS w0 w' base p g v0 v' A' k' a b c :=
  ⟨h.s.did d h.ns, h.r.did d h.nr, h.t.kept d.bel h.b0, hw, h.d.trans d, d.not h.s.lt h.ns, d.not h.r.lt h.nr, h.b0, h.bw⟩
theorem PS.start {w : World} {base p A n0 : Nat} {v : Value} (h : Wr w base p v A n0) (hT : TabS w) (hb0 : 0 < base) (a b c : Value) : PS w ((w.alloc (.cells #[a, b, c] 60)).alloc (.cells #[.int .i64 0, .int .i64 0, .int .i64 0] 60)) base p w.heap.size v v A n0 a b c := by
  have B0 : Below w.heap.size w (w.alloc (.cells #[a, b, c] 60)) := (Below.refl _ w).alloc (Nat.le_refl _) _
  have B1 : Below w.heap.size w ((w.alloc (.cells #[a, b, c] 60)).alloc (.cells #[.int .i64 0, .int .i64 0, .int .i64 0] 60)) := B0.alloc B0.size _
  exact ⟨(Box3.new w _ _ _ 60).kept ((Below.refl (w.heap.size + 1) _).alloc (by simp) _) (by omega), Box3.new_at (by simp) _ _ _ 60, hT.kept B1 hT.pos, h.below B1 (Nat.le_refl _),
    Did.pre B1 ⟨Below.refl _ _, But.refl _ _, fun _ _ h => h⟩ (by have := h.lt; omega), h.not (Nat.le_refl _), h.not (by omega), hb0, by have := h.lt; omega⟩

theorem done3 {w0 w : World} {base p g A k : Nat} {v0 v a b c : Value} (h : PS w0 w base p g v0 v A k a b c) (hg : w0.heap.size ≤ g) (x y z : Value) :
    Wr (((w.setCell ⟨g + 1, 0, none⟩ x).setCell ⟨g + 1, 1, none⟩ y).setCell ⟨g + 1, 2, none⟩ z) base p v A k ∧ Did w0 (((w.setCell ⟨g + 1, 0, none⟩ x).setCell ⟨g + 1, 1, none⟩ y).setCell ⟨g + 1, 2, none⟩ z) base p v0 v := by
  have hbt : But (fun i => i = g + 1) w (((w.setCell ⟨g + 1, 0, none⟩ x).setCell ⟨g + 1, 1, none⟩ y).setCell ⟨g + 1, 2, none⟩ z) :=
    (((But.refl (fun i => i = g + 1) w).setCell (p := ⟨g + 1, 0, none⟩) (fun _ => rfl) x).setCell (p := ⟨g + 1, 1, none⟩) (fun _ => rfl) y).setCell (p := ⟨g + 1, 2, none⟩) (fun _ => rfl) z
  obtain ⟨m, O, H⟩ := h.wr
  refine ⟨⟨m, O.kept hbt (fun i hi => by rw [hi]; exact h.nr), H⟩, ?_⟩
  have hlt := h.wr.lt
  have hd := h.d.bel.size
  refine ⟨h.d.bel.trans (hbt.below (by omega) (fun i hi => ?_)), h.d.but.trans hbt (fun i hi e => ?_), h.d.own⟩
  · have := h.bw
    rw [hi]; omega
  · omega

set_option maxHeartbeats 2000000 in
theorem putS {w : World} {base p A n0 : Nat} {v : Value} (h : Wr w base p v A n0) (hT : TabS w) (hb0 : 0 < base) {n L D t : Nat} (hs : OkS n L D) (ht : OkT n L (t : Int)) (hroom : n0 + 52 ≤ 524288) :
    Calls Tryz.prog 49 #[.pointer (some ⟨p, 0, none⟩), .agg #[.int .i64 (n : Int), .int .i64 (L : Int), .int .i64 (D : Int)], .int .i64 (t : Int)] w fun e w' =>
      e = .returned (.tuple #[.agg #[.int .i64 ((n + 1 : Nat) : Int), .int .i64 (t : Int), .int .i64 ((dl n L t : Nat) : Int)], .int .i64 0]) ∧ ∃ v', Wr w' base p v' (A * 2 ^ cdN n L D t + cdX n L D t) (n0 + cdN n L D t) ∧ Did w w' base p v v' := by
  have E1 := hide (PS.start h hT hb0 (.int .i64 (n : Int)) (.int .i64 (L : Int)) (.int .i64 (D : Int)))
  have P1 := hide (putWr E1.out.wr 0 0 (by decide) (by decide) (by omega))
  have hsi := hide (okSI_of hs)
  have hti := hide (okTI_of ht)
  have hcn := cdN_le n L D t
  have hcx := hide (cdX_lt hs (show t ≤ 35184372088832 by have := ht.le; omega))
  have hcx64 := hide (cdX_64 hs (show t ≤ 35184372088832 by have := ht.le; omega))
  have C := hide (fun w4 => coded_any n L D t w4 hs ht)
  have H := hide (fun w6 => behind_any n L D t w6 hs ht)
  replace hs := hide hs
  replace ht := hide ht
  replace hroom := hide hroom
  replace hb0 := hide hb0
  clear h hT
  generalize cdX n L D t = X at *
  generalize cdN n L D t = Y at *
  generalize dl n L t = q at *
  generalize n + 1 = n' at *
  go_enter Tryz.func49, Tryz.ntmps49
  go_wp2_with fail
  refine P1.out.mono ?_
  rintro e w2 ⟨rfl, v2, W2, D2⟩
  simp only [Nat.pow_zero, Nat.mul_one, Nat.mod_one, Nat.add_zero] at W2
  have E2 := hide (E1.out.put D2 W2)
  have M := hide (mayBe_any (n : Int) (L : Int) (D : Int) w2)
  rw [hsi.out] at M
  have s0 := E2.out.s.c0
  have s1 := E2.out.s.c1
  have s2 := E2.out.s.c2
  clear P1 E1 D2 W2
  go_wp2_with fail
  refine M.out.mono ?_
  rintro e w3 ⟨rfl, b3⟩
  have E3 := hide (E2.out.below b3)
  have F := hide (mayFollow_any (n : Int) (L : Int) (D : Int) (t : Int) w3)
  rw [hti.out] at F
  clear s0 s1 s2 M E2 b3
  have s0 := E3.out.s.c0
  have s1 := E3.out.s.c1
  have s2 := E3.out.s.c2
  go_wp2_with fail
  refine F.out.mono ?_
  rintro e w4 ⟨rfl, b4⟩
  have E4 := hide (E3.out.below b4)
  clear s0 s1 s2 F E3 b4
  have s0 := E4.out.s.c0
  have s1 := E4.out.s.c1
  have s2 := E4.out.s.c2
  go_wp2_with fail
  refine (C.out _ E4.out.t).mono ?_
  rintro e w5 ⟨rfl, b5⟩
  have E5 := hide (E4.out.below b5)
  have P5 := hide (putWr E5.out.wr X Y hcx64.out (by omega) (by have := hroom.out; omega))
  rw [Nat.mod_eq_of_lt hcx.out] at P5
  clear s0 s1 s2 C E4 b5 hcx hcx64
  go_wp2_with fail
  refine P5.out.mono ?_
  rintro e w6 ⟨rfl, v6, W6, D6⟩
  have E6 := hide (E5.out.put D6 W6)
  clear P5 E5 D6 W6
  have s0 := E6.out.s.c0
  have s1 := E6.out.s.c1
  have s2 := E6.out.s.c2
  go_wp2_with fail
  refine (H.out _).mono ?_
  rintro e w7 ⟨rfl, b7⟩
  have E7 := hide (E6.out.below b7)
  clear s0 s1 s2 H E6 b7
  have FIN := hide (done3 E7.out (Nat.le_refl _) (.int .i64 (n' : Int)) (.int .i64 (t : Int)) (.int .i64 (q : Int)))
  have X2 := hide (E7.out.r.set (.int .i64 (n' : Int)) (.int .i64 (t : Int)) (.int .i64 (q : Int)))
  obtain ⟨r0, r1, r2, r3, r4, r5, r6⟩ := E7.out.r
  have r7 := E7.out.r.o1
  have r8 := E7.out.r.o2
  have o0 := X2.out.c0
  have o1 := X2.out.c1
  have o2 := X2.out.c2
  go_wp2_with fail
  refine bodyPost_ret (v := .tuple #[.agg #[.int .i64 (n' : Int), .int .i64 (t : Int), .int .i64 (q : Int)], .int .i64 0]) (by simp [results, Tryz.f49, go_sem, o0, o1, o2]) rfl ?_
  exact ⟨rfl, v6, FIN.out.1, FIN.out.2⟩
set_option linter.unusedSimpArgs false

theorem putSi {w : World} {base p A n0 : Nat} {v : Value} (h : Wr w base p v A n0) (hT : TabS w) (hb0 : 0 < base) {n L D t X Y : Nat} {ni li di ti ni' qi : Int} (hs : OkS n L D) (ht : OkT n L (t : Int)) (hroom : n0 + 52 ≤ 524288)
    (e1 : (n : Int) = ni) (e2 : (L : Int) = li) (e3 : (D : Int) = di) (e4 : (t : Int) = ti) (e5 : ((n + 1 : Nat) : Int) = ni') (e6 : ((dl n L t : Nat) : Int) = qi) (hY : cdN n L D t = Y) (hX : cdX n L D t = X) :
    Calls Tryz.prog 49 #[.pointer (some ⟨p, 0, none⟩), .agg #[.int .i64 ni, .int .i64 li, .int .i64 di], .int .i64 ti] w fun e w' =>
      e = .returned (.tuple #[.agg #[.int .i64 ni', .int .i64 ti, .int .i64 qi], .int .i64 0]) ∧ ∃ v', Wr w' base p v' (A * 2 ^ Y + X) (n0 + Y) ∧ Did w w' base p v v' := by
  subst e1 e2 e3 e4 e5 e6 hY hX
  exact putS h hT hb0 hs ht hroom

theorem held23 : Tryz.prog.stoodInHeld 60 = false := by kernel_rfl
theorem held36 : Tryz.prog.stoodInHeld 49 = false := by kernel_rfl
theorem held96 : Tryz.prog.stoodInHeld 145 = false := by kernel_rfl
theorem under23 : Tryz.prog.underlying 60 = some (.struct (Tryz.prog.fieldsOf 60)) := by kernel_rfl
theorem under36 : Tryz.prog.underlying 49 = some (.struct (Tryz.prog.fieldsOf 49)) := by kernel_rfl
theorem under96 : Tryz.prog.underlying 145 = some (.struct (Tryz.prog.fieldsOf 145)) := by kernel_rfl
theorem dec3 (x0 x1 x2 y0 y1 y2 : Int) : (x0 == y0 && (x1 == y1 && x2 == y2)) = decide (x0 = y0 ∧ x1 = y1 ∧ x2 = y2) := by
  by_cases h0 : x0 = y0 <;> by_cases h1 : x1 = y1 <;> by_cases h2 : x2 = y2 <;> simp [h0, h1, h2]
theorem run_eql23 (x0 x1 x2 y0 y1 y2 : Int) (w : World) : (binOp .eql 60 (.agg #[.int .i64 x0, .int .i64 x1, .int .i64 x2]) (.agg #[.int .i64 y0, .int .i64 y1, .int .i64 y2])).run Tryz.prog w = .ok (.bool (decide (x0 = y0 ∧ x1 = y1 ∧ x2 = y2))) w := by
  rw [run_eql_struct, run_equalIn_agg w 9999 60 _ _ under23 held23]
  have hs : ∀ w, (sizeOf 3).run Tryz.prog w = .ok 1 w := fun w => by kernel_rfl
  have hs2 : ∀ w, (sizeOf 31).run Tryz.prog w = .ok 1 w := fun w => by kernel_rfl
  have hu := Tryz.underlying3
  have hu2 := Tryz.underlying31
  rw [show (Tryz.prog.fieldsOf 60).toList = _ from rfl]
  simp [Op.eqFields, go_sem]
  by_cases h0 : x0 = y0 <;> by_cases h1 : x1 = y1 <;> by_cases h2 : x2 = y2 <;> simp [h0, h1, h2]
theorem run_neq23 (x0 x1 x2 y0 y1 y2 : Int) (w : World) : (binOp .neq 60 (.agg #[.int .i64 x0, .int .i64 x1, .int .i64 x2]) (.agg #[.int .i64 y0, .int .i64 y1, .int .i64 y2])).run Tryz.prog w = .ok (.bool (!decide (x0 = y0 ∧ x1 = y1 ∧ x2 = y2))) w := by
  rw [run_neq_struct, run_equalIn_agg w 9999 60 _ _ under23 held23]
  have hs : ∀ w, (sizeOf 3).run Tryz.prog w = .ok 1 w := fun w => by kernel_rfl
  have hs2 : ∀ w, (sizeOf 31).run Tryz.prog w = .ok 1 w := fun w => by kernel_rfl
  have hu := Tryz.underlying3
  have hu2 := Tryz.underlying31
  rw [show (Tryz.prog.fieldsOf 60).toList = _ from rfl]
  simp [Op.eqFields, go_sem]
  by_cases h0 : x0 = y0 <;> by_cases h1 : x1 = y1 <;> by_cases h2 : x2 = y2 <;> simp [h0, h1, h2]
theorem run_eql36 (x0 x1 x2 y0 y1 y2 : Int) (w : World) : (binOp .eql 49 (.agg #[.int .i64 x0, .int .i64 x1, .int .i64 x2]) (.agg #[.int .i64 y0, .int .i64 y1, .int .i64 y2])).run Tryz.prog w = .ok (.bool (decide (x0 = y0 ∧ x1 = y1 ∧ x2 = y2))) w := by
  rw [run_eql_struct, run_equalIn_agg w 9999 49 _ _ under36 held36]
  have hs : ∀ w, (sizeOf 3).run Tryz.prog w = .ok 1 w := fun w => by kernel_rfl
  have hs2 : ∀ w, (sizeOf 31).run Tryz.prog w = .ok 1 w := fun w => by kernel_rfl
  have hu := Tryz.underlying3
  have hu2 := Tryz.underlying31
  rw [show (Tryz.prog.fieldsOf 49).toList = _ from rfl]
  simp [Op.eqFields, go_sem]
  by_cases h0 : x0 = y0 <;> by_cases h1 : x1 = y1 <;> by_cases h2 : x2 = y2 <;> simp [h0, h1, h2]
theorem run_neq96 (x0 x1 x2 y0 y1 y2 : Int) (w : World) : (binOp .neq 145 (.agg #[.int .u64 x0, .int .i64 x1, .int .i64 x2]) (.agg #[.int .u64 y0, .int .i64 y1, .int .i64 y2])).run Tryz.prog w = .ok (.bool (!decide (x0 = y0 ∧ x1 = y1 ∧ x2 = y2))) w := by
  rw [run_neq_struct, run_equalIn_agg w 9999 145 _ _ under96 held96]
  have hs : ∀ w, (sizeOf 3).run Tryz.prog w = .ok 1 w := fun w => by kernel_rfl
  have hs2 : ∀ w, (sizeOf 31).run Tryz.prog w = .ok 1 w := fun w => by kernel_rfl
  have hu := Tryz.underlying3
  have hu2 := Tryz.underlying31
  rw [show (Tryz.prog.fieldsOf 145).toList = _ from rfl]
  simp [Op.eqFields, go_sem]
  by_cases h0 : x0 = y0 <;> by_cases h1 : x1 = y1 <;> by_cases h2 : x2 = y2 <;> simp [h0, h1, h2]

/-- A writer, beside a box at g. -/
structure WB (w0 w : World) (base p g : Nat) (v0 v : Value) (A k : Nat) (a b c : Value) : Prop where
  s : Box3 w g a b c
  t : TabS w
  wr : Wr w base p v A k
  d : Did w0 w base p v0 v
  ns : ¬ fp p v g
  b0 : 0 < base
  bg : base ≤ g
theorem WB.below {w0 w w' : World} {base p g : Nat} {v0 v : Value} {A k : Nat} {a b c : Value} (h : WB w0 w base p g v0 v A k a b c) (hb : Below w.heap.size w w') : WB w0 w' base p g v0 v A k a b c :=
  ⟨h.s.kept hb h.s.lt, h.t.kept hb h.t.pos, h.wr.below hb (Nat.le_refl _), h.d.post hb (by have := h.wr.lt; omega), h.ns, h.b0, h.bg⟩
theorem WB.put {w0 w w' : World} {base p g : Nat} {v0 v v' : Value} {A k A' k' : Nat} {a b c : Value} (h : WB w0 w base p g v0 v A k a b c) (d : Did w w' base p v v') (hw : Wr w' base p v' A' k') : WB w0 w' base p g v0 v' A' k' a b c :=
  ⟨h.s.did d h.ns, h.t.kept d.bel h.b0, hw, h.d.trans d, d.not h.s.lt h.ns, h.b0, h.bg⟩
theorem but3 (w : World) (g : Nat) (x y z : Value) : But (fun i => i = g) w (((w.setCell ⟨g, 0, none⟩ x).setCell ⟨g, 1, none⟩ y).setCell ⟨g, 2, none⟩ z) :=
  (((But.refl (fun i => i = g) w).setCell (p := ⟨g, 0, none⟩) (fun _ => rfl) x).setCell (p := ⟨g, 1, none⟩) (fun _ => rfl) y).setCell (p := ⟨g, 2, none⟩) (fun _ => rfl) z
/-- The box is written. -/
theorem WB.set {w0 w : World} {base p g : Nat} {v0 v : Value} {A k : Nat} {a b c : Value} (h : WB w0 w base p g v0 v A k a b c) (hg : w0.heap.size ≤ g) (x y z : Value) :
    WB w0 (((w.setCell ⟨g, 0, none⟩ x).setCell ⟨g, 1, none⟩ y).setCell ⟨g, 2, none⟩ z) base p g v0 v A k x y z := by
  have hbt := but3 w g x y z
  have hbel : Below base w (((w.setCell ⟨g, 0, none⟩ x).setCell ⟨g, 1, none⟩ y).setCell ⟨g, 2, none⟩ z) := hbt.below (by have := h.wr.lt; omega) (fun i hi => by rw [hi]; exact h.bg)
  refine ⟨h.s.set x y z, h.t.kept hbel h.b0, ?_, ⟨h.d.bel.trans hbel, h.d.but.trans hbt (fun i hi e => by omega), h.d.own⟩, h.ns, h.b0, h.bg⟩
  obtain ⟨m, O, H⟩ := h.wr
  exact ⟨m, O.kept hbt (fun i hi => by rw [hi]; exact h.ns), H⟩
theorem WB.start {w w1 : World} {base p A k g : Nat} {v v1 : Value} (d : Did w w1 base p v v1) (h : Wr w1 base p v1 A k) (hT : TabS w1) (hb0 : 0 < base) (a b c : Value) (hg : g = w1.heap.size) : WB w (w1.alloc (.cells #[a, b, c] 60)) base p g v v1 A k a b c := by
  subst hg
  have B0 : Below w1.heap.size w1 (w1.alloc (.cells #[a, b, c] 60)) := (Below.refl _ w1).alloc (Nat.le_refl _) _
  have hlt := h.lt
  exact ⟨Box3.new w1 _ _ _ 60, hT.kept B0 hT.pos, h.below B0 (Nat.le_refl _), d.post B0 (by omega), h.not (Nat.le_refl _), hb0, by omega⟩

set_option maxHeartbeats 2000000 in
theorem putS_no {w : World} {base p A n0 : Nat} {v : Value} (h : Wr w base p v A n0) (hT : TabS w) (hb0 : 0 < base) (n l d t : Int) (hno : (okSI n l d && okTI n l t) = false) (hroom : n0 ≤ 524288) :
    Calls Tryz.prog 49 #[.pointer (some ⟨p, 0, none⟩), .agg #[.int .i64 n, .int .i64 l, .int .i64 d], .int .i64 t] w fun e w' =>
      e = .returned (.tuple #[.agg #[.int .i64 0, .int .i64 0, .int .i64 0], .int .i64 60]) ∧ ∃ v', Wr w' base p v' A n0 ∧ Did w w' base p v v' := by
  have E1 := hide (PS.start h hT hb0 (.int .i64 n) (.int .i64 l) (.int .i64 d))
  have P1 := hide (putWr E1.out.wr 0 0 (by decide) (by decide) (by omega))
  have hz23 := zero23
  clear h hT
  go_enter Tryz.func49, Tryz.ntmps49
  go_wp2_with fail
  refine P1.out.mono ?_
  rintro e w2 ⟨rfl, v2, W2, D2⟩
  simp only [Nat.pow_zero, Nat.mul_one, Nat.mod_one, Nat.add_zero] at W2
  have E2 := hide (E1.out.put D2 W2)
  have M := hide (mayBe_any n l d w2)
  have s0 := E2.out.s.c0
  have s1 := E2.out.s.c1
  have s2 := E2.out.s.c2
  clear P1 E1 D2 W2
  cases hsi : okSI n l d <;> rw [hsi] at M hno
  · go_wp2_with fail
    refine M.out.mono ?_
    rintro e w3 ⟨rfl, b3⟩
    have E7 := hide (E2.out.below b3)
    clear s0 s1 s2 M E2 b3
    have FIN := hide (done3 E7.out (Nat.le_refl _) (.int .i64 0) (.int .i64 0) (.int .i64 0))
    have X2 := hide (E7.out.r.set (.int .i64 0) (.int .i64 0) (.int .i64 0))
    obtain ⟨r0, r1, r2, r3, r4, r5, r6⟩ := E7.out.r
    have r7 := E7.out.r.o1
    have r8 := E7.out.r.o2
    have o0 := X2.out.c0
    have o1 := X2.out.c1
    have o2 := X2.out.c2
    go_wp2_with fail
    refine bodyPost_ret (v := .tuple #[.agg #[.int .i64 0, .int .i64 0, .int .i64 0], .int .i64 60]) (by simp [results, Tryz.f49, go_sem, o0, o1, o2]) rfl ?_
    exact ⟨rfl, v2, FIN.out.1, FIN.out.2⟩
  · have hti : okTI n l t = false := by simpa using hno
    go_wp2_with fail
    refine M.out.mono ?_
    rintro e w3 ⟨rfl, b3⟩
    have E3 := hide (E2.out.below b3)
    have F := hide (mayFollow_any n l d t w3)
    rw [hti] at F
    clear s0 s1 s2 M E2 b3 hti hsi hno
    have s0 := E3.out.s.c0
    have s1 := E3.out.s.c1
    have s2 := E3.out.s.c2
    go_wp2_with fail
    refine F.out.mono ?_
    rintro e w4 ⟨rfl, b4⟩
    have E7 := hide (E3.out.below b4)
    clear s0 s1 s2 F E3 b4
    have FIN := hide (done3 E7.out (Nat.le_refl _) (.int .i64 0) (.int .i64 0) (.int .i64 0))
    have X2 := hide (E7.out.r.set (.int .i64 0) (.int .i64 0) (.int .i64 0))
    obtain ⟨r0, r1, r2, r3, r4, r5, r6⟩ := E7.out.r
    have r7 := E7.out.r.o1
    have r8 := E7.out.r.o2
    have o0 := X2.out.c0
    have o1 := X2.out.c1
    have o2 := X2.out.c2
    go_wp2_with fail
    refine bodyPost_ret (v := .tuple #[.agg #[.int .i64 0, .int .i64 0, .int .i64 0], .int .i64 60]) (by simp [results, Tryz.f49, go_sem, o0, o1, o2]) rfl ?_
    exact ⟨rfl, v2, FIN.out.1, FIN.out.2⟩

end Go.Proofs.YtmjjedbdedemcaaGreatDoor
