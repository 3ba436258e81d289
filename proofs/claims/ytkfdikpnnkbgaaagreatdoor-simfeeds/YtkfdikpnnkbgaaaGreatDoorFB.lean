/-
  A queue of numbers, and a row of bools, in memory.
-/
import Derived.Test.YtkfdikpnnkbgaaaGreatDoorCL
import Derived.Deep.AppendSrc
namespace Go.Proofs.YtkfdikpnnkbgaaaGreatDoor
open Go.RowKit
set_option linter.unusedVariables false
set_option linter.unusedSimpArgs false

/-- A slice of the cells of a block: the numbers q. -/
structure QuP (v : Value) (g : Nat) (cur : Array Value) (q : List Int) : Prop where
  ex : ∃ o c, v = .slice (some ⟨g, o, none⟩) q.length c ∧ o + c ≤ cur.size ∧ q.length ≤ c ∧ ∀ i z, q[i]? = some z → cur[o + i]? = some (.int .i64 z)
theorem info3 : ∃ i, Tryz.prog.info? 3 = some i ∧ i.zero = some (.int .i64 0) ∧ i.size = 1 ∧ i.bytes = 8 := by
  have h : (Tryz.prog.info? 3).map (fun i => (i.zero, i.size, i.bytes)) = some (some (.int .i64 0), 1, 8) := by kernel_rfl
  cases hi : Tryz.prog.info? 3 with
  | none => rw [hi] at h; cases h
  | some i =>
    rw [hi] at h
    simp only [Option.map_some, Option.some.injEq, Prod.mk.injEq] at h
    exact ⟨i, rfl, h.1, h.2.1, h.2.2⟩
theorem nextcap_small {n c : Nat} (h : c < n) (hn : n ≤ 100000) : Builtin.nextslicecap n c * 8 ≤ 281474976710656 := growslice_fits h (by omega)
/-- append of a number to a queue, as it runs. -/
theorem run_push {S : Nat → Prop} {w0 w : World} {g gs : Nat} {cur xs : Array Value} {ts : TypeId} {v : Value} {q : List Int} (H : St S w0 w [(true, g, 3, cur), (true, gs, ts, xs)]) (hq : QuP v g cur q) (hl : q.length ≤ 10000) (z : Int) (ty : TypeId) :
    ∃ v' w' g' cur', (Builtin.append_ #[54, 54] ty #[v, .slice (some ⟨w.heap.size, 0, none⟩) 1 1]).run Tryz.prog (w.alloc (.cells #[.int .i64 z] 3)) = .ok v' w' ∧ St S w0 w' [(true, g', 3, cur'), (true, gs, ts, xs)] ∧ QuP v' g' cur' (q ++ [z]) := by
  obtain ⟨o, c, rfl, hoc, hlc, hcell⟩ := hq.ex
  obtain ⟨i, hi, hz, hs, hby⟩ := info3
  have H1 := H.alloc 3 #[.int .i64 z]
  have hg := H1.get 1 rfl
  have hsrc : ∀ w1 : World, w1 = w.alloc (.cells #[.int .i64 z] 3) → Src Tryz.prog i.size 54 (.slice (some ⟨w.heap.size, 0, none⟩) 1 1) 1 [.int .i64 z] w1 := fun w1 e => by
    subst e
    refine Src.ofSlice _ Tryz.underlying54 ⟨w.heap.size, 0, none⟩ 1 1 [.int .i64 z] (by rw [hs]; rfl) (cell_one_new w (.int .i64 z) 3) ?_
    intro u hu
    rw [List.mem_singleton.1 hu]
    rfl
  by_cases hroom : q.length + 1 ≤ c
  · have hlt : o + q.length < cur.size := by omega
    have hr := run_append_room_src (P := Tryz.prog) (w.alloc (.cells #[.int .i64 z] 3)) 54 54 ty 3 i Tryz.underlying54 hi g o q.length c (.slice (some ⟨w.heap.size, 0, none⟩) 1 1) 1 [.int .i64 z] (hsrc _ rfl) hroom (fun j hj => by
      obtain rfl : j = 0 := by simpa using hj
      rw [hs, Nat.mul_one, Nat.add_zero, cell_of_row _ _ _ _ _ _ hg]
      simp [hlt]) (fun j hj => frozen_of_row _ _ _ _ _ hg)
    rw [hs, Nat.mul_one] at hr
    have e1 : (w.alloc (.cells #[.int .i64 z] 3)).setCells g (o + q.length) [.int .i64 z] = (w.alloc (.cells #[.int .i64 z] 3)).setCell ⟨g, o + q.length, none⟩ (.int .i64 z) := rfl
    rw [e1] at hr
    have H2 := (H1.setCell 1 rfl (o + q.length) (.int .i64 z)).tail
    refine ⟨_, _, g, _, hr, H2, ⟨o, c, by simp, by simpa using hoc, by simp; omega, fun k u hk => ?_⟩⟩
    by_cases hkl : k < q.length
    · rw [List.getElem?_append_left hkl] at hk
      rw [Array.getElem?_setIfInBounds_ne (by omega)]
      exact hcell k u hk
    · rw [List.getElem?_append_right (by omega)] at hk
      have hk0 : k - q.length = 0 := by
        have := (List.getElem?_eq_some_iff.1 hk).1
        simpa using this
      rw [hk0] at hk
      cases hk
      obtain rfl : k = q.length := by omega
      simp [hlt]
  · have hc : c = q.length := by omega
    subst hc
    have hr := run_append_grow (P := Tryz.prog) (w.alloc (.cells #[.int .i64 z] 3)) 54 ty 3 i (.int .i64 0) Tryz.underlying54 hi hz ⟨g, o, none⟩ q.length q.length (q.map (Value.int .i64)) (by rw [hs]; simp) (fun j u hj => by
      rw [add_plain, cell_of_row _ _ _ _ _ _ hg]
      rw [List.getElem?_map] at hj
      cases hq' : q[j]? with
      | none => rw [hq'] at hj; cases hj
      | some y => rw [hq'] at hj; cases hj; exact hcell j y hq') ⟨w.heap.size, 0, none⟩ 1 1 [.int .i64 z] (by rw [hs]; rfl) (cell_one_new w (.int .i64 z) 3) (by omega) (by omega) (by rw [hby]; exact nextcap_small (by omega) (by omega))
    have H2 := (H1.drew.alloc 3 ((q.map (Value.int .i64)).toArray ++ #[.int .i64 z] ++ Builtin.zeroCells (Value.int .i64 0).cells (grownCap (w.alloc (.cells #[.int .i64 z] 3)) (q.length + 1) q.length 3 - (q.length + 1)))).sub (M := [_, _]) (List.Sublist.cons_cons _ (List.Sublist.cons _ (List.Sublist.cons _ (List.Sublist.refl _))))
    refine ⟨_, _, _, _, hr, H2, ⟨0, grownCap (w.alloc (.cells #[.int .i64 z] 3)) (q.length + 1) q.length 3, by simp, ?_, ?_, fun k u hk => ?_⟩⟩
    · simp [size_zeroCells, Value.cells]
      have := grownCap_ge (w.alloc (.cells #[.int .i64 z] 3)) (q.length + 1) q.length 3
      omega
    · have := grownCap_ge (w.alloc (.cells #[.int .i64 z] 3)) (q.length + 1) q.length 3
      simpa using this
    · have hk' := (List.getElem?_eq_some_iff.1 hk).1
      have e2 : (q.map (Value.int .i64)).toArray ++ #[Value.int .i64 z] = ((q ++ [z]).map (Value.int .i64)).toArray := by simp
      rw [Nat.zero_add, e2, Array.getElem?_append_left (by simpa using hk')]
      rw [List.getElem?_toArray, List.getElem?_map, hk]
      rfl
/-- The first one of a queue, and the rest. -/
theorem QuP.pop {v : Value} {g : Nat} {cur : Array Value} {z : Int} {q : List Int} (h : QuP v g cur (z :: q)) : ∃ o c, v = .slice (some ⟨g, o, none⟩) (q.length + 1) c ∧ cur[o]? = some (.int .i64 z) ∧ q.length + 1 ≤ c ∧
    QuP (.slice (some ⟨g, o + 1, none⟩) q.length (c - 1)) g cur q ∧ (c = 1 → QuP (.slice (some ⟨g, o, none⟩) q.length (c - 1)) g cur q) := by
  obtain ⟨o, c, rfl, h1, h2, h3⟩ := h.ex
  simp only [List.length_cons] at h2 ⊢
  refine ⟨o, c, rfl, by simpa using h3 0 z rfl, h2, ⟨o + 1, c - 1, rfl, by omega, by omega, fun i u hi => ?_⟩, fun hc => ⟨o, c - 1, rfl, by omega, by omega, fun i u hi => ?_⟩⟩
  · have := h3 (i + 1) u (by simpa using hi)
    rwa [show o + 1 + i = o + (i + 1) by omega]
  · have := (List.getElem?_eq_some_iff.1 hi).1
    omega
end Go.Proofs.YtkfdikpnnkbgaaaGreatDoor
