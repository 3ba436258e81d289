/-
  The iterator over where one goes on from an instruction.
-/
import Derived.Test.YtkfdikpnnkbgaaaGreatDoorSC
import Derived.Test.YtkfdikpnnkbgaaaGreatDoorDD
import Derived.Test.YtkfdikpnnkbgaaaGreatDoorNA
namespace Go.Proofs.YtkfdikpnnkbgaaaGreatDoor
open Go.RowKit Go.Shelf
set_option linter.unusedVariables false
set_option linter.unusedSimpArgs false
attribute [local go_sem] Oper.semAt_some

/-- A number that is handed out. -/
def encO (n : Nat) : Array Value := #[.int .i64 (n : Int)]
/-- Where one stands, too, that stands at an instruction. -/
def onw (q : Ins) : List Nat := if q.op = 2 then [q.x.toNat, q.y.toNat] else if q.op = 4 then [q.x.toNat] else []
theorem ld131 {w : World} {ad : Addr} {v : Value} (h : w.cell? ad = some v) : (loadVar 144 ad).run Tryz.prog w = .ok v w := by
  have ha : ∀ w, (isAgg 144).run Tryz.prog w = .ok false w := fun w => by kernel_rfl
  simp [loadVar, ha, go_sem, h]
theorem onward_in (n : Nat) (ad : Addr) (w : World) : CallsIn Fence.wide n Tryz.prog 87 #[.pointer (some ad)] w fun e w' => ∃ g, e = .returned (.func (.func 118) #[] #[.pointer (some ⟨g, 0, none⟩)]) ∧ w'.heap[g]? = some (.cells #[.pointer (some ad)] 144 (0, 0)) ∧ Below w.heap.size w w' ∧ w.heap.size ≤ g := by
  have hmf : ∀ (fn : Fn) (first cap : Array Value) (w : World), (Instr.makeFunc fn first cap).run Tryz.prog w = .ok (.func fn first cap) w := fun _ _ _ _ => rfl
  refine callsIn_of_wp Tryz.func87 rfl trivial ?_ rfl
  simp only [Tryz.ntmps87, List.size_toArray, List.length_cons, List.length_nil, Nat.reduceAdd, Nat.reduceSub, Array.replicate_succ, Array.replicate_zero, List.push_toArray, List.append_toArray, List.nil_append, List.cons_append]
  gi_wp2
  go_ret
  exact ⟨_, rfl, heap_alloc_new w _, (Below.refl _ w).alloc (Nat.le_refl _) _, Nat.le_refl _⟩
set_option maxHeartbeats 4000000 in
set_option maxRecDepth 100000 in
theorem onward_stops (B0 : Nat) (X : Nat → Prop) (n : Nat) (B b o : Nat) (q : Ins) (w : World) (hBb : w.heap[B]? = some (.cells #[.pointer (some ⟨b, o, none⟩)] 144 (0, 0))) (hI : ∀ j u, (insA q)[j]? = some u → w.cell? ⟨b, o + j, none⟩ = some u) (hb : b < B0 ∧ ¬ X b) (hB : B < B0 ∧ ¬ X B) (hx : (q.op = 2 ∨ q.op = 4) → 0 ≤ q.x) (hy : q.op = 2 → 0 ≤ q.y) :
    SeqStopsK Fence.wide n Tryz.prog 118 #[.pointer (some ⟨B, 0, none⟩)] encO (KO B0 X) (fun xs => xs = onw q) (fun _ => True) 2 w := fun l J Jx V hV hAJ hAJx hYY h0 => by
  have hBl : B < w.heap.size := (Array.getElem?_eq_some_iff.1 hBb).1
  have hcell : ∀ W', KO B0 X V W' → ∀ j u, (insA q)[j]? = some u → W'.cell? ⟨b, o + j, none⟩ = some u := fun W' hk j u hj => by
    have hbl := World.block_lt_of_cell? w _ (hI j u hj)
    have hbV := World.block_lt_of_cell? V _ ((hV.cell (p := ⟨b, o + j, none⟩) hbl).trans (hI j u hj))
    exact (World.cell?_of_block ((hk.2 b hb.1 hbV hb.2).trans (hV.block b hbl))).trans (hI j u hj)
  have hbox : ∀ W', KO B0 X V W' → W'.cell? ⟨B, 0, none⟩ = some (.pointer (some ⟨b, o, none⟩)) := fun W' hk => by
    have hBV := (hV.block B hBl).trans hBb
    exact cell_row ((hk.2 B hB.1 (by have := hV.size; omega) hB.2).trans hBV) 0 rfl
  have cB := hbox V (KO.refl _ _ _)
  have c0 := hcell V (KO.refl _ _ _) 0 (.int .i64 q.op) rfl
  have c5 := hcell V (KO.refl _ _ _) 5 (.int .i64 q.x) rfl
  rw [Nat.add_zero] at c0
  replace hYY : Hid _ := hide hYY
  replace h0 := hide h0
  replace hcell := hide hcell
  replace hbox := hide hbox
  clear hV hBb hI hBl
  show CallsIn Fence.wide n Tryz.prog 118 #[.func (.yield l) #[] #[], .pointer (some ⟨B, 0, none⟩)] V _
  by_cases h2 : q.op = 2
  · have hx0 := hx (.inl h2)
    have hy0 := hy h2
    obtain ⟨xn, hxn⟩ : ∃ xn : Nat, q.x = (xn : Int) := ⟨q.x.toNat, by omega⟩
    obtain ⟨yn, hyn⟩ : ∃ yn : Nat, q.y = (yn : Int) := ⟨q.y.toNat, by omega⟩
    have hon : Hid (onw q = [xn, yn]) := by
      show _ = _
      unfold onw
      rw [if_pos h2, hxn, hyn]; rfl
    rw [h2] at c0
    rw [hxn] at c5
    obtain ⟨fn, tmps, assign, body, hy, hR⟩ := hYY.out [] xn V h0.out (by decide)
    simp only [encO] at hy
    clear hx hx0 hy0
    refine callsIn_of_wp Tryz.func118 rfl trivial ?_ rfl
    simp only [Tryz.ntmps118, List.size_toArray, List.length_cons, List.length_nil, Nat.reduceAdd, Nat.reduceSub, Array.replicate_succ, Array.replicate_zero, List.push_toArray, List.append_toArray, List.nil_append, List.cons_append]
    gi_wp2_with (first | ((with_reducible refine atI_load 144 ?_); refine wlI_load 144 wide_fn rfl (ld131 cB) ?_))
    refine ⟨fun h => (by cases h), hR.mono ?_⟩
    clear hy hR
    rintro e W5 (⟨rfl, hJ5, hk5⟩ | ⟨rfl, hJx5⟩)
    · have cB5 := hbox.out W5 hk5
      have c6 := hcell.out W5 hk5 6 (.int .i64 q.y) rfl
      rw [hyn] at c6
      obtain ⟨fn, tmps, assign, body, hy, hR⟩ := hYY.out [xn] yn W5 hJ5 (by simp)
      simp only [encO] at hy
      replace hk5 := hide hk5
      replace hJ5 := hide hJ5
      clear cB c0 c5
      gi_wp2_with (first | ((with_reducible refine atI_load 144 ?_); refine wlI_load 144 wide_fn rfl (ld131 cB5) ?_))
      refine ⟨fun h => (by cases h), hR.mono ?_⟩
      clear hy hR
      rintro e W6 (⟨rfl, hJ6, hk6⟩ | ⟨rfl, hJx6⟩)
      · replace hJ6 := hide hJ6
        clear hk6
        gi_wp2
        go_end0
        exact ⟨⟨_, rfl⟩, .inl ⟨_, hon.out.symm, hJ6.out⟩⟩
      · replace hJx6 := hide hJx6
        gi_wp2
        go_end0
        exact ⟨⟨_, rfl⟩, .inr ⟨_, trivial, hJx6.out⟩⟩
    · replace hJx5 := hide hJx5
      gi_wp2
      go_end0
      exact ⟨⟨_, rfl⟩, .inr ⟨_, trivial, hJx5.out⟩⟩
  · have n2 : (q.op == 2) = false := by simpa using h2
    by_cases h4 : q.op = 4
    · have hx0 := hx (.inr h4)
      obtain ⟨xn, hxn⟩ : ∃ xn : Nat, q.x = (xn : Int) := ⟨q.x.toNat, by omega⟩
      have hon : Hid (onw q = [xn]) := by
        show _ = _
        unfold onw
        rw [if_neg h2, if_pos h4, hxn]; rfl
      rw [h4] at c0
      rw [hxn] at c5
      obtain ⟨fn, tmps, assign, body, hy, hR⟩ := hYY.out [] xn V h0.out (by decide)
      simp only [encO] at hy
      clear hx hx0 n2 h2
      refine callsIn_of_wp Tryz.func118 rfl trivial ?_ rfl
      simp only [Tryz.ntmps118, List.size_toArray, List.length_cons, List.length_nil, Nat.reduceAdd, Nat.reduceSub, Array.replicate_succ, Array.replicate_zero, List.push_toArray, List.append_toArray, List.nil_append, List.cons_append]
      gi_wp2_with (first | ((with_reducible refine atI_load 144 ?_); refine wlI_load 144 wide_fn rfl (ld131 cB) ?_))
      refine ⟨fun h => (by cases h), hR.mono ?_⟩
      clear hy hR
      rintro e W6 (⟨rfl, hJ6, hk6⟩ | ⟨rfl, hJx6⟩)
      · replace hJ6 := hide hJ6
        clear hk6
        gi_wp2
        go_end0
        exact ⟨⟨_, rfl⟩, .inl ⟨_, hon.out.symm, hJ6.out⟩⟩
      · replace hJx6 := hide hJx6
        gi_wp2
        go_end0
        exact ⟨⟨_, rfl⟩, .inr ⟨_, trivial, hJx6.out⟩⟩
    · have n4 : (q.op == 4) = false := by simpa using h4
      have hon : Hid (onw q = []) := by
        show _ = _
        unfold onw
        rw [if_neg h2, if_neg h4]
      replace h2 := hide h2
      replace h4 := hide h4
      clear hx
      refine callsIn_of_wp Tryz.func118 rfl trivial ?_ rfl
      simp only [Tryz.ntmps118, List.size_toArray, List.length_cons, List.length_nil, Nat.reduceAdd, Nat.reduceSub, Array.replicate_succ, Array.replicate_zero, List.push_toArray, List.append_toArray, List.nil_append, List.cons_append]
      gi_wp2_with (first | ((with_reducible refine atI_load 144 ?_); refine wlI_load 144 wide_fn rfl (ld131 cB) ?_))
      go_end0
      exact ⟨⟨_, rfl⟩, .inl ⟨_, hon.out.symm, h0.out⟩⟩
end Go.Proofs.YtkfdikpnnkbgaaaGreatDoor
