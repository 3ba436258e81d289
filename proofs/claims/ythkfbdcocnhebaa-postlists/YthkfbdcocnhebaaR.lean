/-
  A row of lists that is put together; And, Or of too many lists.
-/
import Derived.Test.YthkfbdcocnhebaaP
import Derived.Test.YthkfbdcocnhebaaQ
namespace Go.Proofs.Ythkfbdcocnhebaa
open Go.RowKit
set_option linter.unusedVariables false
set_option linter.unusedSimpArgs false

theorem info23 : (Try.prog.info? 23).map (fun i => (i.zero, i.size, i.bytes)) = some (some (.slice none 0 0), 1, 24) := by kernel_rfl
/-- append of one slice to a row of slices of one's own. -/
theorem wpList_pushL {w : World} {ops : Array Oper} {rest : List Oper} {o : Oper} {a : Act} {Q : Exit → Act → World → Prop} (hgd : o.guard = none) (s x : Operand)
    (ho : o.op = .call { callee := .builtin .append, args := #[s, x], argTypes := #[22, 22] }) (base : Nat) (v : Value) (k : Nat) (l : List Value) (hs : a.eval s = v) (hown : w.ownsRow base 23 1 v k l)
    (ax : Nat) (b : Value) (hb1 : b.oneCell' = true) (hx : a.eval x = .slice (some ⟨ax, 0, none⟩) 1 1) (hc : w.cell? ⟨ax, 0, none⟩ = some b) (hb : k + 1 ≤ 1000000) (hbase : base ≤ w.heap.size)
    (h : ∀ g cap w', w'.ownsRow base 23 1 (.slice (some ⟨g, 0, none⟩) (k + 1) cap) (k + 1) (l ++ [b]) → w.grownBy w' v.ownBlock → wpList Try.prog ops Q rest (a.put o.dst (.slice (some ⟨g, 0, none⟩) (k + 1) cap)) w') :
    wpList Try.prog ops Q (o :: rest) a w := by
  obtain ⟨i0, hi, hz0, hz1, hz2⟩ := info_parts info23
  refine wpList_append_lies w hgd s x 22 ho base 23 i0 (.slice none 0 0) 1 24 Try.underlying22 hi hz0 hz1 hz2 rfl (by decide) v k l hs hown ⟨ax, 0, none⟩ 1 1 [b] hx
    (by simp) ?_ (fun u hu => by rw [List.mem_singleton.1 hu]; exact hb1) (by omega) (by unfold maxLen; omega) (by omega) hbase _ rfl ?_
  · intro j u hj
    have hj0 : j = 0 := by
      rcases Nat.lt_or_ge j 1 with h | h
      · omega
      · rw [List.getElem?_eq_none (by simpa using h)] at hj; cases hj
    subst hj0
    simp at hj
    subst hj
    rw [add_plain]; exact hc
  · intro g cap w' h1 h2 h3 _
    exact h g cap w' h1 h2
theorem ownsL_empty (w : World) : (w.alloc (.cells #[] 23)).ownsRow w.heap.size 23 1 (.slice (some ⟨w.heap.size, 0, none⟩) 0 0) 0 [] := by
  simpa using World.ownsRow_made (e := 23) (size := 1) w #[] 0 (Nat.le_refl _) (Nat.zero_le _) (by simp)
theorem ownL_below {w w' : World} {base n : Nat} {v : Value} {xs : List Value} (h : w.ownsRow base 23 1 v n xs) (hb : Below w.heap.size w w') : w'.ownsRow base 23 1 v n xs := by
  refine ⟨h.1, ?_⟩
  rcases h.2 with h1 | ⟨g, cap, cur, rfl, h2, h3, h4⟩
  · exact .inl h1
  · exact .inr ⟨g, cap, cur, rfl, h2, (hb.block g (Array.getElem?_eq_some_iff.1 h3).1).trans h3, h4⟩
theorem ownU_zero {w : World} {base n : Nat} {v : Value} {xs : List Value} (h : w.ownsRow base 24 1 v n xs) : w.ownsRow 0 24 1 v n xs := by
  refine ⟨h.1, ?_⟩
  rcases h.2 with h1 | ⟨g, cap, cur, rfl, h2, h3⟩
  · exact .inl h1
  · exact .inr ⟨g, cap, cur, rfl, Nat.zero_le _, h3⟩
/-- The lists so far, each in a row of its own. -/
def Vs (w : World) (ls : List (List Int)) (vs : List Value) : Prop := ∀ j, j < vs.length → ∃ x m k, vs[j]? = some (.slice x m k) ∧ w.ownsRow 0 24 1 (.slice x m k) m ((ls.getD j []).map (Value.int .u64)) ∧ ∀ y ∈ ls.getD j [], 0 ≤ y ∧ y < 18446744073709551616
theorem Vs.kept {w w' : World} {ls : List (List Int)} {vs : List Value} (h : Vs w ls vs) (hk : ∀ (k : Nat) (cur : Array Value), w.heap[k]? = some (.cells cur 24 (0, 0)) → w'.heap[k]? = some (.cells cur 24 (0, 0))) : Vs w' ls vs := fun j hj => by
  obtain ⟨x, m, k, e1, e2, e3⟩ := h j hj
  exact ⟨x, m, k, e1, ownU_kept e2 (fun q cur _ _ e => hk q cur e), e3⟩
theorem Vs.below {w w' : World} {ls : List (List Int)} {vs : List Value} (h : Vs w ls vs) (hb : Below w.heap.size w w') : Vs w' ls vs := h.kept (fun k cur e => (hb.block k (Array.getElem?_eq_some_iff.1 e).1).trans e)
theorem Vs.has {w : World} {ls : List (List Int)} {vs : List Value} (h : Vs w ls vs) : ∀ j, j < vs.length → ∃ x m k, vs[j]? = some (.slice x m k) ∧ HasU w x m k (ls.getD j []) := fun j hj => by
  obtain ⟨x, m, k, e1, e2, e3⟩ := h j hj
  obtain ⟨a, c, e4, e5⟩ := hasU_of_owns e2 e3
  cases e4
  exact ⟨x, m, k, e1, e5⟩
/-- What own hands out is a row of its own. -/
def RetO (w : World) (l : List Int) (e : Ending) (w' : World) : Prop := ∃ a n c, e = .returned (.slice a n c) ∧ w'.ownsRow w.heap.size 24 1 (.slice a n c) n (l.map (Value.int .u64)) ∧ Below w.heap.size w w'
set_option maxHeartbeats 1000000 in
theorem own2_any (w : World) (a : Option Addr) (n c : Nat) (l : List Int) (h : HasU w a n c l) : Calls Try.prog 11 #[.slice a n c] w (RetO w (l.take 60)) := by
  have H := h.kept ((Below.refl w.heap.size w).alloc (Nat.le_refl _) (.cells #[] 24)) (Nat.le_refl _)
  have hB : Below w.heap.size w (w.alloc (.cells #[] 24)) := (Below.refl _ _).alloc (Nat.le_refl _) _
  have O := owns_empty w
  have hle := h.le
  have hcb := h.capb
  have hl := h.hlen
  have fin : ∀ k a' c' w', l.take k = l.take 60 → Below w.heap.size (w.alloc (.cells #[] 24)) w' → w'.ownsRow w.heap.size 24 1 (.slice a' k c') k ((l.take k).map (Value.int .u64)) → RetO w (l.take 60) (.returned (.slice a' k c')) w' := fun k a' c' w' h2 h3 h4 => ⟨a', k, c', rfl, h2 ▸ h4, hB.trans h3⟩
  replace fin := hide fin
  clear h
  unfold maxLen at hcb
  by_cases h6 : n ≤ 60
  · have e1 : min (n : Int) 60 = (n : Int) := by omega
    have i1 : (n : Int) ≤ 60 := by omega
    have i2 : ¬ (60 : Int) < (n : Int) := by omega
    have i3 : (n : Int) ≤ (c : Int) := by omega
    have et : l.take n = l.take 60 := by rw [List.take_of_length_le (by omega), List.take_of_length_le (by omega)]
    have H2 := hide (H.front n (Nat.le_refl _))
    replace et := hide et
    replace hl := hide hl
    go_enter Try.func11, Try.ntmps11
    go_wp2_with (at_builtin; refine wpList_appU rfl (.tmp 3) (.tmp 8) rfl w.heap.size _ rfl O a n c (l.take n) rfl H2.out (by omega) (by simp) ?_; intro a' c' w' h1 h2 h3; clear h1; replace h2 := hide h2; replace h3 := hide h3)
    go_ret
    exact fin.out n a' c' w' et.out h2.out h3.out
  · have e1 : min (n : Int) 60 = 60 := by omega
    have i1 : ¬ (n : Int) ≤ 60 := by omega
    have i2 : (60 : Int) < (n : Int) := by omega
    have i3 : (60 : Int) ≤ (c : Int) := by omega
    have H2 := hide (H.front 60 (by omega))
    replace hl := hide hl
    go_enter Try.func11, Try.ntmps11
    go_wp2_with (at_builtin; refine wpList_appU rfl (.tmp 3) (.tmp 8) rfl w.heap.size _ rfl O a 60 c (l.take 60) rfl H2.out (by omega) (by simp) ?_; intro a' c' w' h1 h2 h3; clear h1; replace h2 := hide h2; replace h3 := hide h3)
    go_ret
    exact fin.out 60 a' c' w' rfl h2.out h3.out
theorem hasLL_of_owns {w : World} {base : Nat} {a : Option Addr} {n c : Nat} {vs : List Value} {ls : List (List Int)} (h : w.ownsRow base 23 1 (.slice a n c) n vs) (hv : Vs w ls vs) (hl : ls.length = n) : HasLL w a n c ls := by
  have hlen : vs.length = n := by simpa using h.1
  rcases h.2 with ⟨e, h0⟩ | ⟨g, cap, cur, e, hbg, hg, hnc, hcm, hcs, htake⟩
  · cases e
    exact ⟨by omega, Nat.le_refl _, Nat.zero_le _, fun i hi => by omega⟩
  · cases e
    refine ⟨hl, hnc, hcm, fun i hi => ?_⟩
    obtain ⟨x, m, k, e1, e2⟩ := hv.has i (by omega)
    have := h.cells (g := g) rfl i _ e1
    rw [add_plain] at this
    exact ⟨g, 0, x, m, k, rfl, (Array.getElem?_eq_some_iff.1 hg).1, this, e2⟩
set_option maxHeartbeats 400000 in
theorem and_long (w : World) (a : Option Addr) (n c : Nat) (hn : 4096 < n) : Calls Try.prog 8 #[.slice a n c] w fun e w' => e = .returned (.tuple #[.slice none 0 0, .int .i64 3]) ∧ w' = w := by
  have M := hide (many_long w a n c hn)
  go_enter Try.func8, Try.ntmps8
  go_wp2_with fail
  refine M.out.mono ?_
  rintro e w1 ⟨rfl, rfl⟩
  go_wp2_with fail
  go_ret2
  exact ⟨rfl, rfl⟩
set_option maxHeartbeats 400000 in
theorem or_long (w : World) (a : Option Addr) (n c : Nat) (hn : 4096 < n) : Calls Try.prog 9 #[.slice a n c] w fun e w' => e = .returned (.tuple #[.slice none 0 0, .int .i64 3]) ∧ w' = w := by
  have M := hide (many_long w a n c hn)
  go_enter Try.func9, Try.ntmps9
  go_wp2_with fail
  refine M.out.mono ?_
  rintro e w1 ⟨rfl, rfl⟩
  go_wp2_with fail
  go_ret2
  exact ⟨rfl, rfl⟩
end Go.Proofs.Ythkfbdcocnhebaa
