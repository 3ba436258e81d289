/-
  The iterator over samples.
-/
import Derived.Test.YtmjjedbdedemcaaGreatDoorTI
import Derived.Test.YtmjjedbdedemcaaGreatDoorTG
namespace Go.Proofs.YtmjjedbdedemcaaGreatDoor
open Go.RowKit Go.Shelf
set_option linter.unusedVariables false
set_option linter.unusedSimpArgs false
attribute [local go_sem] Oper.semAt_some

/-- What a round leaves alone. -/
structure KpR (n₀ : Nat) (A B : World) : Prop where
  bel : Below n₀ A B
  keep : ∀ (k : Nat) (cs : Array Value) (t : TypeId) (fr : Nat × Nat), A.heap[k]? = some (Obj.cells cs t fr) → t = 135 ∨ t = 5 ∨ t = 63 ∨ t = 107 → B.heap[k]? = some (Obj.cells cs t fr)
theorem KpR.trans {n₀ : Nat} {A B C : World} (h : KpR n₀ A B) (k : KpR n₀ B C) : KpR n₀ A C := ⟨h.bel.trans k.bel, fun i cs t fr hi ht => k.keep _ _ _ _ (h.keep _ _ _ _ hi ht) ht⟩
theorem KpR.put {n₀ : Nat} {w : World} (hn : n₀ ≤ w.heap.size) (W : World) (l : Nat) (o o' : Obj) (hl : w.heap.size ≤ l) (h : W.heap[l]? = some o) (hc : o.isCells = false) (hw : o.isWalk = false) : KpR n₀ W (W.putObj l o') :=
  ⟨belowK_b hn W l o o' hl h hc hw, fun k cs t fr hk _ => by
    have hne : k ≠ l := fun e => by rw [e, h] at hk; cases hk; cases hc
    exact (World.putObj_heap_other hne).trans hk⟩
theorem KpR.rd {n₀ base q P : Nat} {A B : World} {v : Value} {l : List Int} (h : KpR n₀ A B) (r : Rd A base q v l P) : Rd B base q v l P := by
  refine ⟨⟨h.keep _ _ _ _ r.1.heap (.inl rfl), r.1.ge, ?_, r.1.ne⟩, r.2⟩
  refine ⟨r.1.own.1, ?_⟩
  rcases r.1.own.2 with h1 | ⟨g, cap, cur, e, h2, h3, h4⟩
  · exact .inl h1
  · exact .inr ⟨g, cap, cur, e, h2, h.keep _ _ _ _ h3 (.inr (.inl rfl)), h4⟩
/-- A reader stays where something turns that is no row of cells. -/
theorem Rd.grown {base q P : Nat} {A B : World} {v : Value} {l : List Int} {row : Option Nat} (r : Rd A base q v l P) (hg : A.grownBy B row) (hr : ∀ k, row = some k → ∃ o : Obj, A.heap[k]? = some o ∧ o.isCells = false) : Rd B base q v l P := by
  have keep : ∀ (k : Nat) (cs : Array Value) (t : TypeId) (fr : Nat × Nat), A.heap[k]? = some (Obj.cells cs t fr) → B.heap[k]? = some (Obj.cells cs t fr) := fun k cs t fr hk => by
    refine (hg.block k (Array.getElem?_eq_some_iff.1 hk).1 (fun e => ?_)).trans hk
    obtain ⟨o, ho, hc⟩ := hr k e.symm
    rw [hk] at ho; cases ho; cases hc
  refine ⟨⟨keep _ _ _ _ r.1.heap, r.1.ge, ?_, r.1.ne⟩, r.2⟩
  refine ⟨r.1.own.1, ?_⟩
  rcases r.1.own.2 with h1 | ⟨g, cap, cur, e, h2, h3, h4⟩
  · exact .inl h1
  · exact .inr ⟨g, cap, cur, e, h2, keep _ _ _ _ h3, h4⟩
theorem grown_of_but {p : Nat} {A B : World} (h : But (fun k => k = p) A B) : A.grownBy B (some p) := ⟨h.os, h.tape, h.output, h.size, fun k hk hne => h.block k hk (fun e => hne (by rw [e]))⟩
theorem grown_of_below {A B : World} (h : Below A.heap.size A B) : A.grownBy B none := ⟨h.os, h.tape, h.output, h.size, fun k hk _ => h.block k hk⟩

/-- What is given: a sample, and an error. -/
abbrev Gv := Smp × Int
def okP (ts : List Sm) : List Gv := ts.map (fun s => (up s, 0))
theorem okP_snoc (ts : List Sm) (s : Sm) : okP (ts ++ [s]) = okP ts ++ [(up s, 0)] := by simp [okP]
/-- All was given; or an error was, and the body went on. -/
def FinT (l : List Int) (base q : Nat) (v : Value) (m : Nat) (xs : List Gv) (W : World) : Prop := (∃ ts P, rdS m z0 (num l) l.length 0 = some (ts, P) ∧ xs = okP ts ∧ Rd W base q v l P) ∨ (∃ x, x ∈ xs ∧ x.2 ≠ 0)
/-- The body did not go on. -/
def StpT (V N m : Nat) (pre : List Gv) : Prop := ∃ i ts P x, i < m ∧ rdS i z0 V N 0 = some (ts, P) ∧ pre = okP ts ++ [x] ∧ (x.2 ≠ 0 → rdS (i + 1) z0 V N 0 = none)
theorem FinT.own (l : List Int) (base q : Nat) (v : Value) (m B : Nat) : OwnFrom B (FinT l base q v m) := by
  rintro xs A A' row h hg hr
  rcases h with ⟨ts, P, h1, h2, h3⟩ | h
  · exact .inl ⟨ts, P, h1, h2, h3.grown hg (fun k e => (hr k e).2)⟩
  · exact .inr h

theorem none_ex (w : World) : Calls Tryz.prog 62 #[] w fun e w' => e = .returned (.agg #[.int .i64 64, .int .i64 0]) ∧ w' = w.alloc (.cells #[.int .i64 64, .int .i64 0] 116) := by
  have hz := zero81
  have XX := Bx.new w 116 #[.int .i64 0, .int .i64 0]
  have X2 := (XX.set2 (.int .i64 64) (.int .i64 0)).st2
  obtain ⟨p0, p1, p2, p3, p4⟩ := XX.st2
  have o0 := X2.c0
  have o1 := X2.c1
  go_enter Tryz.func62, Tryz.ntmps62
  go_wp2_with fail
  refine bodyPost_ret (v := .agg #[.int .i64 64, .int .i64 0]) (by simp [results, Tryz.f62, go_sem, o0, o1]) rfl ?_
  exact ⟨rfl, rfl⟩
set_option maxHeartbeats 1000000 in
theorem begin_ex (w : World) : Calls Tryz.prog 48 #[] w fun e w' => e = .returned (.agg #[.int .i64 0, .int .u64 0, .int .i64 64, .int .i64 0]) ∧ Below w.heap.size w w' ∧ w'.heap.size = w.heap.size + 3 := by
  have hz := zero24
  have hf0 := field81_0
  have hf1 := field81_1
  have X0 := hide (Bx.new w 61 #[.int .i64 0, .int .u64 0, .int .i64 0, .int .i64 0])
  have B0 : Hid (Below w.heap.size w (w.alloc (.cells #[.int .i64 0, .int .u64 0, .int .i64 0, .int .i64 0] 61))) := (Below.refl _ w).alloc (Nat.le_refl _) _
  go_enter Tryz.func48, Tryz.ntmps48
  go_wp2_with fail
  refine (none_ex _).mono ?_
  rintro e w1 ⟨rfl, hw1⟩
  have b1 : Below (w.alloc (.cells #[.int .i64 0, .int .u64 0, .int .i64 0, .int .i64 0] 61)).heap.size (w.alloc (.cells #[.int .i64 0, .int .u64 0, .int .i64 0, .int .i64 0] 61)) w1 := by rw [hw1]; exact (Below.refl _ _).alloc (Nat.le_refl _) _
  have z1 : Hid (w1.heap.size = w.heap.size + 2) := by show _ = _; rw [hw1]; simp
  have B1 := hide (B0.out.trans (b1.mono B0.out.size))
  have X1 := hide (X0.out.below b1)
  clear B0 X0 b1 hw1
  go_wp2_with fail
  refine (none_ex _).mono ?_
  rintro e w2 ⟨rfl, hw2⟩
  have b2 : Below w1.heap.size w1 w2 := by rw [hw2]; exact (Below.refl _ _).alloc (Nat.le_refl _) _
  have z2 : Hid (w2.heap.size = w.heap.size + 3) := by show _ = _; rw [hw2]; simp [z1.out]
  have B2 := hide (B1.out.trans (b2.mono B1.out.size))
  have X2 := hide (X1.out.below b2)
  clear B1 X1 b2 hw2 z1
  have X3 := (X2.out.set4 (.int .i64 0) (.int .u64 0) (.int .i64 64) (.int .i64 0)).st4
  have b3 := hide (below_set4 B2.out (Nat.le_refl _) (.int .i64 0) (.int .u64 0) (.int .i64 64) (.int .i64 0))
  obtain ⟨p0, p1, p2, p3, p4, p5, p6, p7, p8, p9, p10⟩ := X2.out.st4
  have o0 := X3.c0
  have o1 := X3.c1
  have o2 := X3.c2
  have o3 := X3.c3
  clear X3
  go_wp2_with fail
  refine bodyPost_ret (v := .agg #[.int .i64 0, .int .u64 0, .int .i64 64, .int .i64 0]) (by simp [results, Tryz.f48, go_sem, o0, o1, o2, o3]) rfl ?_
  exact ⟨rfl, b3.out, by simp [z2.out]⟩
set_option maxHeartbeats 1000000 in
theorem cbegin_ex (w : World) : Calls Tryz.prog 25 #[] w fun e w' => e = .returned (.agg #[.int .i64 0, .int .i64 0, .int .i64 0, .int .i64 0, .int .u64 0, .int .i64 64, .int .i64 0]) ∧ Below w.heap.size w w' ∧ w'.heap.size = w.heap.size + 4 := by
  have hz := zeroSts
  have X0 := hide (Bx.new w 63 #[.int .i64 0, .int .i64 0, .int .i64 0, .int .i64 0, .int .u64 0, .int .i64 0, .int .i64 0])
  have B0 : Hid (Below w.heap.size w (w.alloc (.cells #[.int .i64 0, .int .i64 0, .int .i64 0, .int .i64 0, .int .u64 0, .int .i64 0, .int .i64 0] 63))) := (Below.refl _ w).alloc (Nat.le_refl _) _
  go_enter Tryz.func25, Tryz.ntmps25
  go_wp2_with fail
  refine (begin_ex _).mono ?_
  rintro e w1 ⟨rfl, b1, z1⟩
  have B1 := hide (B0.out.trans (b1.mono B0.out.size))
  have X1 := hide (X0.out.below b1)
  simp only [World.size_alloc] at z1
  replace z1 := hide z1
  clear B0 X0 b1
  have RR := hide (X1.out.setRow #[.int .i64 0, .int .i64 0, .int .i64 0, .int .i64 0, .int .u64 0, .int .i64 64, .int .i64 0])
  have B2 := hide (below_setRow B1.out (Nat.le_refl _) #[.int .i64 0, .int .i64 0, .int .i64 0, .int .i64 0, .int .u64 0, .int .i64 64, .int .i64 0])
  go_wp2_with (refine wpList_storeZ rfl (.tmp 0) (.tmp 2) rfl w.heap.size _ _ _ _ _ _ _ rfl rfl 63 _ _ _ _ _ _ _ X1.out ?_)
  obtain ⟨o0, o1, o2, o3, o4, o5, o6⟩ := RR.out.seven
  refine bodyPost_ret (v := .agg #[.int .i64 0, .int .i64 0, .int .i64 0, .int .i64 0, .int .u64 0, .int .i64 64, .int .i64 0]) (by simp [results, Tryz.f25, go_sem, o0, o1, o2, o3, o4, o5, o6]) rfl ?_
  exact ⟨rfl, B2.out, by have := z1.out; simp [World.setRow]; omega⟩

set_option maxHeartbeats 1000000 in
theorem samples_in (n q : Nat) (m : Int) (w : World) :
    CallsIn Fence.wide n Tryz.prog 58 #[.pointer (some ⟨q, 0, none⟩), .int .i64 m] w fun e w' => e = .returned (.func (.func 77) #[] #[.pointer (some ⟨w.heap.size + 1, 0, none⟩), .pointer (some ⟨w.heap.size, 0, none⟩)]) ∧ w' = (w.alloc (.cells #[.pointer (some ⟨q, 0, none⟩)] 107)).alloc (.cells #[.int .i64 m] 3) := by
  refine callsIn_of_wp Tryz.func58 rfl trivial ?_ rfl
  simp only [Tryz.ntmps58, List.size_toArray, List.length_cons, List.length_nil, Nat.reduceAdd, Nat.reduceSub, Array.replicate_succ, Array.replicate_zero, List.push_toArray, List.append_toArray, List.nil_append, List.cons_append]
  gi_wp2
  go_ret
  exact ⟨rfl, rfl⟩
end Go.Proofs.YtmjjedbdedemcaaGreatDoor
