/-
  A builder: New, Len, Add.
-/
import Derived.Test.YtmjjedbdedemcaaGreatDoorTD
import Derived.Deep.RegionHeld3
import Derived.Deep.Cut
namespace Go.Proofs.YtmjjedbdedemcaaGreatDoor
open Go.RowKit
set_option linter.unusedVariables false
set_option linter.unusedSimpArgs false

/-- A row's first cells are stored. -/
theorem wpList_storeB {ops : Array Oper} {rest : List Oper} {o : Oper} {a : Act} {w : World} {Q : Exit → Act → World → Prop} (hgd : o.guard = none) (x y : Operand) (ho : o.op = .store 63 x y)
    (g : Nat) (a0 a1 a2 a3 a4 a5 a6 : Int) (hx : a.eval x = .pointer (some ⟨g, 0, none⟩)) (hy : a.eval y = .agg #[.int .i64 a0, .int .i64 a1, .int .i64 a2, .int .i64 a3, .int .u64 a4, .int .i64 a5, .int .i64 a6])
    (t : TypeId) (b0 b1 b2 b3 b4 b5 b6 b7 : Value) (hg : Bx w g t #[b0, b1, b2, b3, b4, b5, b6, b7])
    (h : wpList Tryz.prog ops Q rest (a.put o.dst undef) (w.setRow g #[.int .i64 a0, .int .i64 a1, .int .i64 a2, .int .i64 a3, .int .u64 a4, .int .i64 a5, .int .i64 a6, b7])) : wpList Tryz.prog ops Q (o :: rest) a w := by
  refine wpList_plain hgd fun K hK => ?_
  have hst := run_storeCells_at (P := Tryz.prog) g 0 t [.int .i64 a0, .int .i64 a1, .int .i64 a2, .int .i64 a3, .int .u64 a4, .int .i64 a5, .int .i64 a6] 0 _ w hg (by simp) (fun v hv => by simp at hv; rcases hv with rfl | rfl | rfl | rfl | rfl | rfl | rfl <;> rfl)
  simp only [List.take, List.drop, List.length_cons, List.length_nil, Nat.zero_add, Nat.add_zero, List.nil_append, List.cons_append] at hst
  have hz := sizeSts
  cases hq : Tryz.prog.info? 63 with
  | none => rw [hq] at hz; cases hz
  | some i =>
    rw [hq] at hz
    have hs : i.size = 7 := by simpa using hz
    unfold Oper.wp execOp
    simp [ho, hx, hy, Instr.storeAt, Instr.sureAddr, storeVar, sizeOf, typeInfo, hq, Value.cells, hs, hst, Result.andThen]
    exact hK _ _ h
/-- A builder in memory. -/
structure Bd (w : World) (base q p : Nat) (v : Value) (z : Z) (A k : Nat) : Prop where
  bx : Bx w q 68 #[.int .i64 (z.n : Int), .int .i64 (z.L : Int), .int .i64 (z.D : Int), .int .i64 (z.n : Int), .int .u64 (z.U : Int), .int .i64 (z.a : Int), .int .i64 (z.b : Int), .pointer (some ⟨p, 0, none⟩)]
  wr : Wr w base p v A k
  nf : ¬ fp p v q
  ge : base ≤ q
/-- Nothing has turned but the builder. -/
structure DidB (w w' : World) (base q p : Nat) (v v' : Value) : Prop where
  bel : Below base w w'
  but : But (fun k => k = q ∨ fp p v k) w w'
  own : ∀ k, k < w.heap.size → fp p v' k → fp p v k
section
variable {w w' : World} {base q p A k : Nat} {v : Value} {z : Z}
theorem Bd.below (h : Bd w base q p v z A k) (hb : Below w.heap.size w w') : Bd w' base q p v z A k := ⟨h.bx.below hb, h.wr.below hb (Nat.le_refl _), h.nf, h.ge⟩
end
theorem DidB.trans {a b c : World} {base q p : Nat} {v v1 v2 : Value} (h : DidB a b base q p v v1) (k : DidB b c base q p v1 v2) : DidB a c base q p v v2 :=
  ⟨h.bel.trans k.bel, h.but.trans k.but (fun i hi e => by rcases e with e | e; exact .inl e; exact .inr (h.own i hi e)), fun i hi e => h.own i hi (k.own i (Nat.lt_of_lt_of_le hi h.bel.size) e)⟩
theorem DidB.refl (w : World) (base q p : Nat) (v : Value) : DidB w w base q p v v := ⟨Below.refl _ _, But.refl _ _, fun _ _ h => h⟩

set_option maxHeartbeats 1000000 in
theorem isMade_any {w : World} {base q p A k : Nat} {v : Value} {z : Z} (h : Bd w base q p v z A k) : Calls Tryz.prog 27 #[.pointer (some ⟨q, 0, none⟩)] w fun e w' => e = .returned (.bool true) ∧ w' = w := by
  have c7 := h.bx.cell 7
  simp only [List.getElem?_toArray, List.getElem?_cons_zero, List.getElem?_cons_succ] at c7
  clear h
  go_enter Tryz.func27, Tryz.ntmps27
  go_wp2
  go_ret
  exact ⟨rfl, rfl⟩
set_option maxHeartbeats 1000000 in
theorem len_any {w : World} {base q p A k : Nat} {v : Value} {z : Z} (h : Bd w base q p v z A k) : Calls Tryz.prog 11 #[.pointer (some ⟨q, 0, none⟩)] w fun e w' => e = .returned (.int .i64 (z.n : Int)) ∧ w' = w := by
  have c0 := h.bx.cell 0
  simp only [List.getElem?_toArray, List.getElem?_cons_zero, List.getElem?_cons_succ] at c0
  go_enter Tryz.func11, Tryz.ntmps11
  go_wp2_with fail
  refine (isMade_any h).mono ?_
  rintro e w1 ⟨rfl, rfl⟩
  clear h
  go_wp2_with fail
  go_ret
  exact ⟨rfl, rfl⟩
set_option maxHeartbeats 1000000 in
theorem cbegin_any (w : World) : Calls Tryz.prog 25 #[] w fun e w' => e = .returned (.agg #[.int .i64 0, .int .i64 0, .int .i64 0, .int .i64 0, .int .u64 0, .int .i64 64, .int .i64 0]) ∧ Below w.heap.size w w' := by
  have hz := zeroSts
  have X0 := hide (Bx.new w 63 #[.int .i64 0, .int .i64 0, .int .i64 0, .int .i64 0, .int .u64 0, .int .i64 0, .int .i64 0])
  have B0 : Hid (Below w.heap.size w (w.alloc (.cells #[.int .i64 0, .int .i64 0, .int .i64 0, .int .i64 0, .int .u64 0, .int .i64 0, .int .i64 0] 63))) := (Below.refl _ w).alloc (Nat.le_refl _) _
  go_enter Tryz.func25, Tryz.ntmps25
  go_wp2_with fail
  refine (begin_any _).mono ?_
  rintro e w1 ⟨rfl, b1⟩
  have B1 := hide (B0.out.trans (b1.mono B0.out.size))
  have X1 := hide (X0.out.below b1)
  clear B0 X0 b1
  have RR := hide (X1.out.setRow #[.int .i64 0, .int .i64 0, .int .i64 0, .int .i64 0, .int .u64 0, .int .i64 64, .int .i64 0])
  have B2 := hide (below_setRow B1.out (Nat.le_refl _) #[.int .i64 0, .int .i64 0, .int .i64 0, .int .i64 0, .int .u64 0, .int .i64 64, .int .i64 0])
  go_wp2_with (refine wpList_storeZ rfl (.tmp 0) (.tmp 2) rfl w.heap.size _ _ _ _ _ _ _ rfl rfl 63 _ _ _ _ _ _ _ X1.out ?_)
  have o0 := RR.out.cell 0
  have o1 := RR.out.cell 1
  have o2 := RR.out.cell 2
  have o3 := RR.out.cell 3
  have o4 := RR.out.cell 4
  have o5 := RR.out.cell 5
  have o6 := RR.out.cell 6
  simp only [List.getElem?_toArray, List.getElem?_cons_zero, List.getElem?_cons_succ] at o0 o1 o2 o3 o4 o5 o6
  refine bodyPost_ret (v := .agg #[.int .i64 0, .int .i64 0, .int .i64 0, .int .i64 0, .int .u64 0, .int .i64 64, .int .i64 0]) (by simp [results, Tryz.f25, go_sem, o0, o1, o2, o3, o4, o5, o6]) rfl ?_
  exact ⟨rfl, B2.out⟩
set_option maxHeartbeats 1000000 in
theorem new_any (w : World) (base : Nat) (hb : base ≤ w.heap.size) : Calls Tryz.prog 9 #[] w fun e w' => ∃ q p, e = .returned (.pointer (some ⟨q, 0, none⟩)) ∧ Below w.heap.size w w' ∧ Bd w' base q p (.slice none 0 0) z0 0 0 ∧ w.heap.size ≤ q ∧ ∀ k, fp p (.slice none 0 0) k → w.heap.size ≤ k := by
  go_enter Tryz.func9, Tryz.ntmps9
  go_wp2_with fail
  refine (cbegin_any _).mono ?_
  rintro e w1 ⟨rfl, b1⟩
  go_wp2_with fail
  refine (newWr w1 base (by have := b1.size; omega)).mono ?_
  rintro e w2 ⟨p, rfl, b2, W2, n2⟩
  have B2 := hide (b1.trans (b2.mono b1.size))
  have s2 := hide b2.size
  have s1 := hide b1.size
  have W3 := hide W2
  have n3 := hide n2
  clear b1 b2 W2 n2
  go_wp2_with fail
  go_ret
  exact ⟨w2.heap.size, p, rfl, B2.out.alloc B2.out.size _, ⟨Bx.new w2 _ _, W3.out.below ((Below.refl _ _).alloc (Nat.le_refl _) _) (Nat.le_refl _), W3.out.not (Nat.le_refl _), by have := s1.out; have := s2.out; omega⟩, by have := s1.out; have := s2.out; omega, fun k hk => by have := n3.out k hk; have := s1.out; omega⟩
end Go.Proofs.YtmjjedbdedemcaaGreatDoor
