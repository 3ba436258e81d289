/-
  The iterator over a list's texts: slices.All, All.
-/
import Derived.Test.YtbinnpadmajgpaaHA
namespace Go.Proofs.Ytbinnpadmajgpaa
open Go.RowKit Go.Shelf
set_option linter.unusedVariables false
set_option linter.unusedSimpArgs false
set_option maxRecDepth 100000
attribute [local go_sem] Oper.semAt_some

theorem cell_row {w : World} {g : Nat} {cs : Array Value} {t : TypeId} {fr : Nat × Nat} (h : w.heap[g]? = some (.cells cs t fr)) (i : Nat) {v : Value} (hv : cs[i]? = some v) : w.cell? ⟨g, i, none⟩ = some v := by
  rw [cell_of_row w g i cs t fr h]; exact hv
theorem cell_block {w : World} {b o : Nat} {v : Value} (h : w.cell? ⟨b, o, none⟩ = some v) : ∃ cs t fr, w.heap[b]? = some (.cells cs t fr) := by
  unfold World.cell? at h
  split at h
  · rename_i c t f e; exact ⟨c, t, f, e⟩
  · cases h
/-- The slice's texts lie in blocks that are not in X. -/
structure RowK (X : Nat → Prop) (w : World) (a : Option Addr) (n : Nat) (l : List Tx) : Prop where
  cells : ∀ i, i < n → ∃ b off, a = some ⟨b, off, none⟩ ∧ ¬ X b ∧ w.cell? ⟨b, off + i, none⟩ = some (encStr (l.getD i []))
theorem RowK.kc {X : Nat → Prop} {w w' : World} {a : Option Addr} {n : Nat} {l : List Tx} (h : RowK X w a n l) (k : Kc X w w') : RowK X w' a n l :=
  ⟨fun i hi => by
    obtain ⟨b, off, e, hx, hc⟩ := h.cells i hi
    obtain ⟨cs, t, fr, hb⟩ := cell_block hc
    refine ⟨b, off, e, hx, ?_⟩
    have := k.2 b cs t fr hx hb
    rw [← hc]
    exact World.cell?_of_block (this.trans hb.symm)⟩
theorem RowK.of {X : Nat → Prop} {w : World} {a : Option Addr} {n c : Nat} {l : List Tx} (h : HasS w a n c l) (hX : ∀ b, b < w.heap.size → ¬ X b) : RowK X w a n l :=
  ⟨fun i hi => by
    obtain ⟨b, off, e1, e2, e3⟩ := h.cells i hi
    exact ⟨b, off, e1, hX b e2, e3⟩⟩
theorem RowK.below {X : Nat → Prop} {w w' : World} {a : Option Addr} {n : Nat} {l : List Tx} (h : RowK X w a n l) (hb : Below w.heap.size w w') : RowK X w' a n l :=
  h.kc (Kc.below hb (Nat.le_refl _))
/-- What the iterator hands out: a number and its text. -/
abbrev encN (L : List Tx) (i : Nat) : Array Value := #[.int .i64 (i : Int), encStr (L.getD i [])]
set_option maxHeartbeats 2000000 in
theorem iter_in (X : Nat → Prop) (n : Nat) (hn : 1 ≤ n) (l gB : Nat) (L : List Tx) (m c : Nat) (a : Option Addr) (hm : m ≤ 1000000) (hX : ¬ X gB) (J Jx : List Nat → World → Prop)
    (W : World) (hY : ∀ pre x W1, J pre W1 → pre ++ [x] <+: List.range m → W.heap.size + 0 ≤ W1.heap.size → YieldAt Fence.wide (n - 1) Try.prog l (encN L x) W1 fun e W' =>
      KeepsFrom W.heap.size W1 W' ∧ ((e = .returned (.bool true) ∧ J (pre ++ [x]) W' ∧ Kc X W1 W') ∨ (e = .returned (.bool false) ∧ Jx (pre ++ [x]) W')))
    (hB : W.heap[gB]? = some (.cells #[.slice a m c] 25 (0, 0))) (hR : RowK X W a m L) (h0 : J [] W) :
    CallsIn Fence.wide n Try.prog 50 #[.func (.yield l) #[] #[], .pointer (some ⟨gB, 0, none⟩)] W fun e W' => (∃ v, e = .returned v) ∧ ((∃ ys, ys = List.range m ∧ J ys W') ∨ (∃ pre, pre <+: List.range m ∧ Jx pre W')) := by
  have i0 : (m : Int) ≤ 1000000 := by omega
  have c0 : W.cell? ⟨gB, 0, none⟩ = some (.slice a m c) := cell_row hB 0 rfl
  have hRr := hide hR
  replace hB := hide hB
  clear hR
  refine callsIn_of_wp Try.func50 rfl trivial ?_ rfl
  simp only [Try.ntmps50, List.size_toArray, List.length_cons, List.length_nil, Nat.reduceAdd, Nat.reduceSub, Array.replicate_succ, Array.replicate_zero, List.push_toArray, List.append_toArray, List.nil_append, List.cons_append]
  gi_wp2
  gi_loopw [7] (fun i wr => ∃ k : Nat, k ≤ m ∧ i = .int .i64 (k : Int) ∧ J (List.range k) wr ∧ Hid (RowK X wr a m L) ∧ Hid (W.heap.size ≤ wr.heap.size)) (fun i _ => m - (RowKit.intOf i).toNat)
  case atStart => exact ⟨0, Nat.zero_le _, rfl, by simpa using h0, hRr, Nat.le_refl _⟩
  case round =>
    obtain ⟨k, hk, rfl, hJs, hr, hsw⟩ := hrel
    by_cases hlt : k < m
    · have i1 : (k : Int) < (m : Int) := by omega
      have i2 : (0 : Int) ≤ (k : Int) := by omega
      obtain ⟨b, off, rfl, hxb, c1⟩ := hr.out.cells k hlt
      have ht : Hid (List.range k ++ [k] = List.range (k + 1)) := List.range_succ.symm
      have hpre : Hid (List.range (k + 1) <+: List.range m) := by
        show _ <+: _
        refine ⟨(List.range (m - (k + 1))).map (fun x => (k + 1) + x), ?_⟩
        rw [← List.range_add]
        congr 1
        omega
      obtain ⟨fn, tmps, assign, body, hy, hR⟩ := hY _ k wr hJs (by rw [ht.out]; exact hpre.out) hsw.out
      rw [ht.out] at hR
      simp only [encN] at hy
      generalize L.getD k [] = s at *
      clear hY hJs
      gi_wp2
      refine hR.mono ?_
      rintro e W3 ⟨_, (⟨rfl, hJ3, hk3b⟩ | ⟨rfl, hJx3⟩)⟩
      · have hb3 := hide (hr.out.kc hk3b)
        have hs3 : Hid (W.heap.size ≤ W3.heap.size) := Nat.le_trans hsw.out hk3b.1
        clear hk3b
        gi_wp2
        go_roundw
        case rel => exact ⟨k + 1, by omega, by go_num, hJ3, hb3, hs3⟩
        case measure => simp [RowKit.intOf]; omega
      · gi_wp2
        refine bodyPost_ret (results_none rfl _ _ _) rfl ?_
        exact ⟨⟨_, rfl⟩, .inr ⟨_, hpre.out, hJx3⟩⟩
    · obtain rfl : k = m := by omega
      have i1 : ¬ (k : Int) < (k : Int) := by omega
      gi_wp2
      go_end0
      exact ⟨⟨_, rfl⟩, .inl hJs⟩
theorem iter_stops (X : Nat → Prop) (n : Nat) (hn : 1 ≤ n) (gB : Nat) (L : List Tx) (m c : Nat) (a : Option Addr) (hm : m ≤ 1000000) (hX : ¬ X gB) (w : World) (h : w.heap[gB]? = some (.cells #[.slice a m c] 25 (0, 0))) (hR : RowK X w a m L) :
    SeqB 0 Fence.wide n Try.prog 50 #[.pointer (some ⟨gB, 0, none⟩)] (encN L) (fun _ => Kc X) (fun ys => ys = List.range m) (fun pre => pre <+: List.range m) (fun pre x => pre ++ [x] <+: List.range m) w := fun l J Jx W hW _ _ hY h0 =>
  iter_in X n hn l gB L m c a hm hX J Jx W hY ((hW.block gB (Array.getElem?_eq_some_iff.1 h).1).trans h) (hR.below hW) h0
set_option maxHeartbeats 400000 in
theorem all36_in (a : Option Addr) (n c : Nat) (w : World) : Calls Try.prog 36 #[.slice a n c] w fun e w' => e = .returned (.func (.func 50) #[] #[.pointer (some ⟨w.heap.size, 0, none⟩)]) ∧ w' = w.alloc (.cells #[.slice a n c] 25) := by
  have hmf : ∀ (fn : Fn) (first cap : Array Value) (w : World), (Instr.makeFunc fn first cap).run Try.prog w = .ok (.func fn first cap) w := fun _ _ _ _ => rfl
  go_enter Try.func36, Try.ntmps36
  go_wp2
  go_ret
  exact ⟨rfl, rfl⟩
set_option maxHeartbeats 400000 in
theorem all_any (a : Option Addr) (n c : Nat) (w : World) : Calls Try.prog 23 #[.agg #[.slice a n c]] w fun e w' => ∃ g, e = .returned (.func (.func 50) #[] #[.pointer (some ⟨g, 0, none⟩)]) ∧ w'.heap[g]? = some (.cells #[.slice a n c] 25 (0, 0)) ∧ w.heap.size ≤ g ∧ Below w.heap.size w w' := by
  have H := hide (fun w => all36_in a n c w)
  go_enter Try.func23, Try.ntmps23
  go_wp2_with fail
  refine (H.out _).mono ?_
  rintro e w1 ⟨rfl, e1⟩
  have h1 : Hid (w1.heap[(w.alloc (.cells #[.slice a n c] 27)).heap.size]? = some (.cells #[.slice a n c] 25 (0, 0))) := by
    show _ = _
    rw [e1]; exact heap_alloc_new _ _
  have B1 : Hid (Below w.heap.size w w1) := by
    show Below _ _ _
    rw [e1]; exact ((Below.refl _ w).alloc (Nat.le_refl _) _).alloc (by simp) _
  clear e1
  go_wp2_with fail
  go_ret
  refine ⟨_, rfl, ?_, by simp, B1.out⟩
  have := h1.out
  simpa using this
end Go.Proofs.Ytbinnpadmajgpaa
