/-
  PostGoes: what its closures put together; slices.Values' iterator, called with them.
-/
import Derived.Test.YthkfbdcocnhebaaI
import Derived.Deep.AppendLies
namespace Go.Proofs.Ythkfbdcocnhebaa
open Go.RowKit
set_option linter.unusedVariables false
set_option linter.unusedSimpArgs false

/-- Since W0 nothing has turned but the box p and the row g; the box holds the list l, in the row g or a new one. -/
structure Ac (W0 : World) (p g : Nat) (l : List Int) (W : World) : Prop where
  os : W.os = W0.os
  tape : W.tape = W0.tape
  output : W.output = W0.output
  size : W0.heap.size ≤ W.heap.size
  block : ∀ k, k < W0.heap.size → k ≠ p → k ≠ g → W.heap[k]? = W0.heap[k]?
  box : ∃ v, W.heap[p]? = some (.cells #[v] 23 (0, 0)) ∧ W.ownsRow 0 24 1 v l.length (l.map (Value.int .u64)) ∧ ∀ k, v.ownBlock = some k → k = g ∨ W0.heap.size ≤ k
/-- append of one number to a row of one's own; where it lies then. -/
theorem wpList_push2 {w : World} {ops : Array Oper} {rest : List Oper} {o : Oper} {a : Act} {Q : Exit → Act → World → Prop} (hgd : o.guard = none) (s x : Operand)
    (ho : o.op = .call { callee := .builtin .append, args := #[s, x], argTypes := #[23, 23] }) (base : Nat) (v : Value) (k : Nat) (l : List Int) (hs : a.eval s = v) (hown : w.ownsRow base 24 1 v k (l.map (Value.int .u64)))
    (ax : Nat) (b : Int) (hx : a.eval x = .slice (some ⟨ax, 0, none⟩) 1 1) (hc : w.cell? ⟨ax, 0, none⟩ = some (.int .u64 b)) (hb : k + 1 ≤ 1000000) (hbase : base ≤ w.heap.size)
    (h : ∀ g cap w', w'.ownsRow base 24 1 (.slice (some ⟨g, 0, none⟩) (k + 1) cap) (k + 1) ((l ++ [b]).map (Value.int .u64)) → w.grownBy w' v.ownBlock → (v.ownBlock = some g ∨ g = w.heap.size) → wpList Try.prog ops Q rest (a.put o.dst (.slice (some ⟨g, 0, none⟩) (k + 1) cap)) w') :
    wpList Try.prog ops Q (o :: rest) a w := by
  obtain ⟨i0, hi, hz0, hz1, hz2⟩ := info_parts info24
  refine wpList_append_lies w hgd s x 23 ho base 24 i0 (.int .u64 0) 1 8 Try.underlying23 hi hz0 hz1 hz2 rfl (by decide) v k (l.map (Value.int .u64)) hs hown ⟨ax, 0, none⟩ 1 1 ([b].map (Value.int .u64)) hx
    (by simp) ?_ (nums_oneCell _) (by omega) (by unfold maxLen; omega) (by omega) hbase _ rfl ?_
  · intro j u hj
    have hj0 : j = 0 := by
      rcases Nat.lt_or_ge j 1 with h | h
      · omega
      · rw [List.getElem?_eq_none (by simpa using h)] at hj; cases hj
    subst hj0
    simp at hj
    subst hj
    rw [add_plain]; exact hc
  · intro g cap w' h1 h2 h3 _
    exact h g cap w' (by simpa using h1) h2 h3
set_option maxHeartbeats 2000000 in
set_option maxRecDepth 100000 in
theorem push27 (W0 W : World) (p g : Nat) (l : List Int) (x : Int) (q : Nat) (stop : Int) (hq : W.heap[q]? = some (.cells #[.int .i64 stop] 3 (0, 0))) (hqp : q ≠ p) (hst : 0 ≤ stop ∧ stop < 70) (hi : l.length ≤ 1000) (h : Ac W0 p g l W) :
    Calls Try.prog 27 #[.int .u64 x, .pointer (some ⟨p, 0, none⟩), .pointer (some ⟨q, 0, none⟩)] W fun e W' => e = .returned (.bool (decide (((l.length : Nat) : Int) + 1 ≤ stop))) ∧ Ac W0 p g (l ++ [x]) W' := by
  obtain ⟨v, hX, hO, hB⟩ := h.box
  have c0 := cell_row hX 0 (v := v) rfl
  have f0 := frozen_of_row W p 0 _ 23 hX
  have hXl := (Array.getElem?_eq_some_iff.1 hX).1
  have hO2 : Hid ((W.alloc (.cells #[.int .u64 x] 24)).ownsRow 0 24 1 v l.length (l.map (Value.int .u64))) := hO.alloc _
  have cn : (W.alloc (.cells #[.int .u64 x] 24)).cell? ⟨W.heap.size, 0, none⟩ = some (.int .u64 x) := cell_row (heap_alloc_new W _) 0 rfl
  have hpv : Hid (v.ownBlock ≠ some p) := fun e => by
    obtain ⟨cur, hc⟩ := ownU_typ hO e
    rw [hX] at hc; cases hc
  have cq := cell_row hq 0 (v := .int .i64 stop) rfl
  have hqv : Hid (v.ownBlock ≠ some q) := fun e => by
    obtain ⟨cur, hc⟩ := ownU_typ hO e
    rw [hq] at hc; cases hc
  have hql := (Array.getElem?_eq_some_iff.1 hq).1
  replace hq := hide hq
  replace h := hide h
  replace hX := hide hX
  replace hO := hide hO
  replace hB := hide hB
  go_enter Try.func27, Try.ntmps27
  go_wp2_with (first | (at_builtin; refine wpList_push2 rfl (.tmp 5) (.tmp 7) rfl 0 _ l.length l rfl hO2.out W.heap.size x rfl cn (by omega) (by omega) ?_
                        intro g3 cap w3 hO3 hg3 hwh
                        have hs3 := hg3.size
                        have hb3 : ∀ k, k < W.heap.size → v.ownBlock ≠ some k → w3.heap[k]? = W.heap[k]? := fun k hk hn => (hg3.block k (by simp; omega) (fun e => hn e.symm)).trans (Below.heap_alloc _ _ _ hk)
                        have X3 : w3.heap[p]? = some (.cells #[v] 23 (0, 0)) := (hb3 p hXl hpv.out).trans hX.out
                        have c3 := cell_row X3 0 (v := v) rfl
                        have f3 := frozen_of_row w3 p 0 _ 23 X3
                        have cq3 := cell_row ((hb3 q hql hqv.out).trans hq.out) 0 (v := .int .i64 stop) rfl
                        simp at hs3
                        have hos : Hid (w3.os = W.os ∧ w3.tape = W.tape ∧ w3.output = W.output) := ⟨hg3.os, hg3.tape, hg3.output⟩
                        replace hb3 := hide hb3
                        replace hO3 := hide hO3
                        replace X3 := hide X3
                        replace hwh := hide hwh
                        clear hg3))
  have ot : ∀ k, k ≠ p → (w3.setCell ⟨p, 0, none⟩ (.slice (some ⟨g3, 0, none⟩) (l.length + 1) cap)).heap[k]? = w3.heap[k]? := fun k hk => Below.heap_setCell w3 ⟨p, 0, none⟩ _ k hk
  have fin : Ac W0 p g (l ++ [x]) (w3.setCell ⟨p, 0, none⟩ (.slice (some ⟨g3, 0, none⟩) (l.length + 1) cap)) := by
    have hh := h.out
    refine ⟨hos.out.1.trans hh.os, hos.out.2.1.trans hh.tape, hos.out.2.2.trans hh.output, by have := hh.size; simp [World.setCell]; omega, fun k hk h1 h2 => ?_, _, heap_setCell_same w3 p 0 _ 23 _ X3.out, ?_, fun k hk => ?_⟩
    · rw [ot k h1, hb3.out k (by have := hh.size; omega) (fun e => by rcases hB.out k e with e | e <;> omega)]
      exact hh.block k hk h1 h2
    · rw [List.length_append, List.length_singleton]
      refine ownU_kept hO3.out (fun q cur hq e1 e2 => (ot q (fun e => ?_)).trans e2)
      subst e; rw [X3.out] at e2; cases e2
    · cases hk
      rcases hwh.out with e | e
      · exact hB.out _ e
      · simp at e; exact .inr (by show W0.heap.size ≤ g3; have := hh.size; omega)
  replace fin := hide fin
  clear ot
  go_ret
  exact ⟨rfl, fin.out⟩
set_option maxHeartbeats 2000000 in
set_option maxRecDepth 100000 in
theorem push28 (W0 W : World) (p g : Nat) (l : List Int) (x : Int) (hi : l.length ≤ 1000) (h : Ac W0 p g l W) :
    Calls Try.prog 28 #[.int .u64 x, .pointer (some ⟨p, 0, none⟩)] W fun e W' => e = .returned (.bool (true)) ∧ Ac W0 p g (l ++ [x]) W' := by
  obtain ⟨v, hX, hO, hB⟩ := h.box
  have c0 := cell_row hX 0 (v := v) rfl
  have f0 := frozen_of_row W p 0 _ 23 hX
  have hXl := (Array.getElem?_eq_some_iff.1 hX).1
  have hO2 : Hid ((W.alloc (.cells #[.int .u64 x] 24)).ownsRow 0 24 1 v l.length (l.map (Value.int .u64))) := hO.alloc _
  have cn : (W.alloc (.cells #[.int .u64 x] 24)).cell? ⟨W.heap.size, 0, none⟩ = some (.int .u64 x) := cell_row (heap_alloc_new W _) 0 rfl
  have hpv : Hid (v.ownBlock ≠ some p) := fun e => by
    obtain ⟨cur, hc⟩ := ownU_typ hO e
    rw [hX] at hc; cases hc
  replace h := hide h
  replace hX := hide hX
  replace hO := hide hO
  replace hB := hide hB
  go_enter Try.func28, Try.ntmps28
  go_wp2_with (first | (at_builtin; refine wpList_push2 rfl (.tmp 4) (.tmp 6) rfl 0 _ l.length l rfl hO2.out W.heap.size x rfl cn (by omega) (by omega) ?_
                        intro g3 cap w3 hO3 hg3 hwh
                        have hs3 := hg3.size
                        have hb3 : ∀ k, k < W.heap.size → v.ownBlock ≠ some k → w3.heap[k]? = W.heap[k]? := fun k hk hn => (hg3.block k (by simp; omega) (fun e => hn e.symm)).trans (Below.heap_alloc _ _ _ hk)
                        have X3 : w3.heap[p]? = some (.cells #[v] 23 (0, 0)) := (hb3 p hXl hpv.out).trans hX.out
                        have c3 := cell_row X3 0 (v := v) rfl
                        have f3 := frozen_of_row w3 p 0 _ 23 X3
                        simp at hs3
                        have hos : Hid (w3.os = W.os ∧ w3.tape = W.tape ∧ w3.output = W.output) := ⟨hg3.os, hg3.tape, hg3.output⟩
                        replace hb3 := hide hb3
                        replace hO3 := hide hO3
                        replace X3 := hide X3
                        replace hwh := hide hwh
                        clear hg3))
  have ot : ∀ k, k ≠ p → (w3.setCell ⟨p, 0, none⟩ (.slice (some ⟨g3, 0, none⟩) (l.length + 1) cap)).heap[k]? = w3.heap[k]? := fun k hk => Below.heap_setCell w3 ⟨p, 0, none⟩ _ k hk
  have fin : Ac W0 p g (l ++ [x]) (w3.setCell ⟨p, 0, none⟩ (.slice (some ⟨g3, 0, none⟩) (l.length + 1) cap)) := by
    have hh := h.out
    refine ⟨hos.out.1.trans hh.os, hos.out.2.1.trans hh.tape, hos.out.2.2.trans hh.output, by have := hh.size; simp [World.setCell]; omega, fun k hk h1 h2 => ?_, _, heap_setCell_same w3 p 0 _ 23 _ X3.out, ?_, fun k hk => ?_⟩
    · rw [ot k h1, hb3.out k (by have := hh.size; omega) (fun e => by rcases hB.out k e with e | e <;> omega)]
      exact hh.block k hk h1 h2
    · rw [List.length_append, List.length_singleton]
      refine ownU_kept hO3.out (fun q cur hq e1 e2 => (ot q (fun e => ?_)).trans e2)
      subst e; rw [X3.out] at e2; cases e2
    · cases hk
      rcases hwh.out with e | e
      · exact hB.out _ e
      · simp at e; exact .inr (by show W0.heap.size ≤ g3; have := hh.size; omega)
  replace fin := hide fin
  clear ot
  go_ret
  exact ⟨rfl, fin.out⟩
set_option maxHeartbeats 2000000 in
set_option maxRecDepth 100000 in
theorem values27 (W0 : World) (p g : Nat) (hp : p < W0.heap.size) (q : Nat) (stop : Int) (hq : W0.heap[q]? = some (.cells #[.int .i64 stop] 3 (0, 0))) (hqp : q ≠ p) (hqg : q ≠ g) (hst : 0 ≤ stop ∧ stop < 70) (b : Nat) (a : Option Addr) (n c : Nat) (l : List Int) (hn : n ≤ 100) (hb : W0.heap[b]? = some (.cells #[.slice a n c] 23 (0, 0))) (H : HasU W0 a n c l) (hbp : b ≠ p) (hbg : b ≠ g) (hag : 0 < n → ∀ k, (Value.slice a n c).ownBlock = some k → k ≠ p ∧ k ≠ g) (h : Ac W0 p g [] W0) :
    Calls Try.prog 61 #[.func (.func 27) #[] #[.pointer (some ⟨p, 0, none⟩), .pointer (some ⟨q, 0, none⟩)], .pointer (some ⟨b, 0, none⟩)] W0 fun e W' => (∃ v, e = .returned v) ∧ Ac W0 p g (l.take ((min n (stop.toNat + 1)))) W' := by
  have cb := cell_row hb 0 (v := .slice a n c) rfl
  have i1 : (n : Int) ≤ 100 := by omega
  have hl := hide H.hlen
  have hh := hide h
  replace H := hide H
  replace hag := hide hag
  clear hb h
  go_enter Try.func61, Try.ntmps61
  go_wp2_with fail
  go_loopw [7] (fun iv wr => ∃ i : Nat, i ≤ n ∧ (i = 0 ∨ (i : Int) ≤ stop) ∧ iv = .int .i64 (i : Int) ∧ Hid (Ac W0 p g (l.take i) wr)) (fun iv _ => n - (intOf iv).toNat)
  case atStart => exact ⟨0, Nat.zero_le _, .inl rfl, rfl, by rw [List.take_zero]; exact hh⟩
  case round =>
    obtain ⟨i, hi, hsp, rfl, hA⟩ := hrel
    by_cases hlt : i < n
    · have j1 : (i : Int) < (n : Int) := by omega
      have j2 : (0 : Int) ≤ (i : Int) := by omega
      obtain ⟨bb, off, rfl, hbb, c1, _⟩ := H.out.at i hlt
      have hbk := hag.out (by omega) bb rfl
      have c1i : wr.cell? ⟨bb, off + i, none⟩ = some (.int .u64 (l.getD i 0)) := (World.cell?_of_block (hA.out.block bb hbb hbk.1 hbk.2)).trans c1
      have htk : Hid (l.take (i + 1) = l.take i ++ [l.getD i 0]) := by
        show _ = _
        rw [List.take_add_one, show l.getD i 0 = l[i]'(by rw [hl.out]; exact hlt) by simp [List.getD, List.getElem?_eq_getElem (show i < l.length by rw [hl.out]; exact hlt)], List.getElem?_eq_getElem (by rw [hl.out]; exact hlt)]
        rfl
      have hlen : Hid ((l.take i).length = i) := by show _ = _; rw [List.length_take, hl.out]; omega
      have PU := hide (push27 W0 wr p g (l.take i) (l.getD i 0) q stop ((hA.out.block q (Array.getElem?_eq_some_iff.1 hq).1 hqp hqg).trans hq) hqp hst (by rw [hlen.out]; omega) hA.out)
      rw [hlen.out, ← htk.out] at PU
      clear c1
      generalize l.getD i 0 = x at *
      by_cases hgo : (i : Int) + 1 ≤ stop
      · rw [decide_eq_true hgo] at PU
        go_wp2_with fail
        refine PU.out.mono ?_
        rintro e w2 ⟨rfl, A2⟩
        replace A2 := hide A2
        go_wp2_with fail
        go_roundw
        case rel => exact ⟨i + 1, by omega, .inr (by omega), by go_num, A2⟩
        case measure => simp [intOf]; omega
      · rw [decide_eq_false hgo] at PU
        have hm : Hid (min n (stop.toNat + 1) = i + 1) := by show _ = _; omega
        go_wp2_with fail
        refine PU.out.mono ?_
        rintro e w2 ⟨rfl, A2⟩
        rw [← hm.out] at A2
        replace A2 := hide A2
        go_wp2_with fail
        refine bodyPost_ret (results_none rfl _ _ _) rfl ?_
        exact ⟨⟨_, rfl⟩, A2.out⟩
    · obtain rfl : i = n := by omega
      have j1 : ¬ (i : Int) < (i : Int) := by omega
      have hm : Hid (min i (stop.toNat + 1) = i) := by show _ = _; omega
      rw [← hm.out] at hA
      go_wp2_with fail
      go_end0
      exact ⟨⟨_, rfl⟩, hA.out⟩
set_option maxHeartbeats 2000000 in
set_option maxRecDepth 100000 in
theorem values28 (W0 : World) (p g : Nat) (hp : p < W0.heap.size) (b : Nat) (a : Option Addr) (n c : Nat) (l : List Int) (hn : n ≤ 100) (hb : W0.heap[b]? = some (.cells #[.slice a n c] 23 (0, 0))) (H : HasU W0 a n c l) (hbp : b ≠ p) (hbg : b ≠ g) (hag : 0 < n → ∀ k, (Value.slice a n c).ownBlock = some k → k ≠ p ∧ k ≠ g) (h : Ac W0 p g [] W0) :
    Calls Try.prog 61 #[.func (.func 28) #[] #[.pointer (some ⟨p, 0, none⟩)], .pointer (some ⟨b, 0, none⟩)] W0 fun e W' => (∃ v, e = .returned v) ∧ Ac W0 p g l W' := by
  have cb := cell_row hb 0 (v := .slice a n c) rfl
  have i1 : (n : Int) ≤ 100 := by omega
  have hl := hide H.hlen
  have hh := hide h
  replace H := hide H
  replace hag := hide hag
  clear hb h
  go_enter Try.func61, Try.ntmps61
  go_wp2_with fail
  go_loopw [7] (fun iv wr => ∃ i : Nat, i ≤ n ∧ iv = .int .i64 (i : Int) ∧ Hid (Ac W0 p g (l.take i) wr)) (fun iv _ => n - (intOf iv).toNat)
  case atStart => exact ⟨0, Nat.zero_le _, rfl, by rw [List.take_zero]; exact hh⟩
  case round =>
    obtain ⟨i, hi, rfl, hA⟩ := hrel
    by_cases hlt : i < n
    · have j1 : (i : Int) < (n : Int) := by omega
      have j2 : (0 : Int) ≤ (i : Int) := by omega
      obtain ⟨bb, off, rfl, hbb, c1, _⟩ := H.out.at i hlt
      have hbk := hag.out (by omega) bb rfl
      have c1i : wr.cell? ⟨bb, off + i, none⟩ = some (.int .u64 (l.getD i 0)) := (World.cell?_of_block (hA.out.block bb hbb hbk.1 hbk.2)).trans c1
      have htk : Hid (l.take (i + 1) = l.take i ++ [l.getD i 0]) := by
        show _ = _
        rw [List.take_add_one, show l.getD i 0 = l[i]'(by rw [hl.out]; exact hlt) by simp [List.getD, List.getElem?_eq_getElem (show i < l.length by rw [hl.out]; exact hlt)], List.getElem?_eq_getElem (by rw [hl.out]; exact hlt)]
        rfl
      have hlen : Hid ((l.take i).length = i) := by show _ = _; rw [List.length_take, hl.out]; omega
      have PU := hide (push28 W0 wr p g (l.take i) (l.getD i 0) (by rw [hlen.out]; omega) hA.out)
      rw [← htk.out] at PU
      clear c1
      generalize l.getD i 0 = x at *
      go_wp2_with fail
      refine PU.out.mono ?_
      rintro e w2 ⟨rfl, A2⟩
      replace A2 := hide A2
      go_wp2_with fail
      go_roundw
      case rel => exact ⟨i + 1, by omega, by go_num, A2⟩
      case measure => simp [intOf]; omega
    · obtain rfl : i = n := by omega
      have j1 : ¬ (i : Int) < (i : Int) := by omega
      have hA2 : Hid (Ac W0 p g l wr) := by have := hA.out; rw [List.take_of_length_le (by rw [hl.out]; exact Nat.le_refl _)] at this; exact this
      go_wp2_with fail
      go_end0
      exact ⟨⟨_, rfl⟩, hA2.out⟩
end Go.Proofs.Ythkfbdcocnhebaa
