/-
  and, or of lists that rise; works; rising.
-/
import Derived.Test.YthkfbdcocnhebaaH
import Derived.Deep.AppendLies
namespace Go.Proofs.Ythkfbdcocnhebaa
open Go.RowKit
set_option linter.unusedVariables false
set_option linter.unusedSimpArgs false

/-- A rising list is handed out, of the numbers M. -/
def RetM (w : World) (M : Int → Prop) (N : Nat) (e : Ending) (w' : World) : Prop := ∃ r a n c, e = .returned (.slice a n c) ∧ HasU w' a n c r ∧ Below w.heap.size w w' ∧ Up r ∧ (∀ x, x ∈ r ↔ M x) ∧ r.length ≤ N
set_option maxHeartbeats 400000 in
theorem andL_any (w : World) (a : Option Addr) (n c : Nat) (ls : List (List Int)) (H : HasLL w a n c ls) (hn : n ≤ 4096) (hT : tot ls ≤ 1000000000) (hu : UpL ls) : Calls Try.prog 40 #[.slice a n c] w (RetM w (Tog 4 ls) (tot ls)) := by
  have A := hide (and_any w a n c ls H hn hT)
  replace hu := hide hu
  clear H
  go_enter Try.func40, Try.ntmps40
  go_wp2_with fail
  refine A.out.mono ?_
  intro e w2 R
  obtain ⟨r, a3, n3, c3, rfl, R3, B3, u, m, l⟩ := R.out hu.out
  replace R3 := hide R3
  replace B3 := hide B3
  clear R
  go_wp2_with fail
  go_ret
  exact ⟨r, a3, n3, c3, rfl, R3.out, B3.out, u, m, l⟩
set_option maxHeartbeats 400000 in
theorem orL_any (w : World) (a : Option Addr) (n c : Nat) (ls : List (List Int)) (H : HasLL w a n c ls) (hn : n ≤ 4096) (hT : tot ls ≤ 1000000000) (hu : UpL ls) : Calls Try.prog 41 #[.slice a n c] w (RetM w (Tog 7 ls) (tot ls)) := by
  have A := hide (or_any w a n c ls H hn hT)
  replace hu := hide hu
  clear H
  go_enter Try.func41, Try.ntmps41
  go_wp2_with fail
  refine A.out.mono ?_
  intro e w2 R
  obtain ⟨r, a3, n3, c3, rfl, R3, B3, u, m, l⟩ := R.out hu.out
  replace R3 := hide R3
  replace B3 := hide B3
  clear R
  go_wp2_with fail
  go_ret
  exact ⟨r, a3, n3, c3, rfl, R3.out, B3.out, u, m, l⟩
theorem RetM.from {w w1 w' : World} {M M' : Int → Prop} {N N' : Nat} {e : Ending} (h : RetM w1 M N e w') (B : Below w.heap.size w w1) (hM : ∀ x, M x ↔ M' x) (hN : N ≤ N') : RetM w M' N' e w' := by
  obtain ⟨r, a3, n3, c3, rfl, R3, B3, u, m, l⟩ := h
  exact ⟨r, a3, n3, c3, rfl, R3, B.trans (B3.mono B.size), u, fun x => (m x).trans (hM x), Nat.le_trans l hN⟩
section
variable {w : World} {a b d : Option Addr} {na nb nd ca cb cd : Nat} {la lb ld : List Int}
theorem upL_three {a b c : List Int} (ha : Up a) (hb : Up b) (hc : Up c) : UpL [a, b, c] := fun l hl => by simp at hl; rcases hl with rfl | rfl | rfl; exact ha; exact hb; exact hc
theorem and2 (Ha : HasU w a na ca la) (Hb : HasU w b nb cb lb) (ua : Up la) (ub : Up lb) (h1 : la.length ≤ 100000) (h2 : lb.length ≤ 100000) :
    Calls Try.prog 40 #[.slice (some ⟨w.heap.size, 0, none⟩) 2 2] (w.alloc (.cells #[.slice a na ca, .slice b nb cb] 23)) (RetM w (fun x => x ∈ la ∧ x ∈ lb) (la.length + lb.length)) :=
  (andL_any _ _ 2 2 _ (hasLL_two Ha Hb) (by omega) (by rw [tot_two]; omega) (upL_two.2 ⟨ua, ub⟩)).mono fun e w' R => R.from ((Below.refl _ w).alloc (Nat.le_refl _) _) (fun x => by simp [Tog]) (by rw [tot_two]; omega)
theorem or2 (Ha : HasU w a na ca la) (Hb : HasU w b nb cb lb) (ua : Up la) (ub : Up lb) (h1 : la.length ≤ 100000) (h2 : lb.length ≤ 100000) :
    Calls Try.prog 41 #[.slice (some ⟨w.heap.size, 0, none⟩) 2 2] (w.alloc (.cells #[.slice a na ca, .slice b nb cb] 23)) (RetM w (fun x => x ∈ la ∨ x ∈ lb) (la.length + lb.length)) :=
  (orL_any _ _ 2 2 _ (hasLL_two Ha Hb) (by omega) (by rw [tot_two]; omega) (upL_two.2 ⟨ua, ub⟩)).mono fun e w' R => R.from ((Below.refl _ w).alloc (Nat.le_refl _) _) (fun x => by simp [Tog]) (by rw [tot_two]; omega)
theorem and3 (Ha : HasU w a na ca la) (Hb : HasU w b nb cb lb) (Hd : HasU w d nd cd ld) (ua : Up la) (ub : Up lb) (ud : Up ld) (h1 : la.length ≤ 100000) (h2 : lb.length ≤ 100000) (h3 : ld.length ≤ 100000) :
    Calls Try.prog 40 #[.slice (some ⟨w.heap.size, 0, none⟩) 3 3] (w.alloc (.cells #[.slice a na ca, .slice b nb cb, .slice d nd cd] 23)) (RetM w (fun x => x ∈ la ∧ x ∈ lb ∧ x ∈ ld) (la.length + (lb.length + ld.length))) :=
  (andL_any _ _ 3 3 _ (hasLL_three Ha Hb Hd) (by omega) (by rw [tot_three]; omega) (upL_three ua ub ud)).mono fun e w' R => R.from ((Below.refl _ w).alloc (Nat.le_refl _) _) (fun x => by simp [Tog]) (by rw [tot_three]; omega)
theorem or3 (Ha : HasU w a na ca la) (Hb : HasU w b nb cb lb) (Hd : HasU w d nd cd ld) (ua : Up la) (ub : Up lb) (ud : Up ld) (h1 : la.length ≤ 100000) (h2 : lb.length ≤ 100000) (h3 : ld.length ≤ 100000) :
    Calls Try.prog 41 #[.slice (some ⟨w.heap.size, 0, none⟩) 3 3] (w.alloc (.cells #[.slice a na ca, .slice b nb cb, .slice d nd cd] 23)) (RetM w (fun x => x ∈ la ∨ x ∈ lb ∨ x ∈ ld) (la.length + (lb.length + ld.length))) :=
  (orL_any _ _ 3 3 _ (hasLL_three Ha Hb Hd) (by omega) (by rw [tot_three]; omega) (upL_three ua ub ud)).mono fun e w' R => R.from ((Below.refl _ w).alloc (Nat.le_refl _) _) (fun x => by simp [Tog]) (by rw [tot_three]; omega)
end
theorem same_yes {w : World} {a a' : Option Addr} {n n' c c' : Nat} {l l' : List Int} (h : HasU w a n c l) (h' : HasU w a' n' c' l') (hs : n ≤ 1000000000) (e : l = l') :
    Calls Try.prog 14 #[.slice a n c, .slice a' n' c'] w fun e w' => e = .returned (.bool true) ∧ Below w.heap.size w w' := by
  have := same_any w a a' n n' c c' l l' h h' hs
  rw [decide_eq_true e] at this
  exact this
theorem up135 : Up [1, 3, 5] ∧ Up [3, 4, 5] := by constructor <;> (unfold Up; decide)
set_option maxHeartbeats 4000000 in
set_option maxRecDepth 100000 in
theorem works_any (w : World) : Calls Try.prog 10 #[] w fun e w' => e = .returned (.bool true) ∧ Below w.heap.size w w' := by
  obtain ⟨w1, hw1⟩ : ∃ x, (w.alloc (.cells #[.int .u64 1, .int .u64 3, .int .u64 5] 24)).alloc (.cells #[.int .u64 3, .int .u64 4, .int .u64 5] 24) = x := ⟨_, rfl⟩
  have hs1 : w1.heap.size = w.heap.size + 2 := by rw [← hw1]; simp
  have B1 : Hid (Below w.heap.size w w1) := by rw [← hw1]; exact ((Below.refl _ w).alloc (Nat.le_refl _) _).alloc (by simp) _
  have Ha : HasU w1 (some ⟨w.heap.size, 0, none⟩) 3 3 [1, 3, 5] := by
    rw [← hw1]
    exact (hasU_lit w [1, 3, 5] (fun x hx => by simp at hx; omega) (by simp [maxLen])).kept ((Below.refl _ _).alloc (Nat.le_refl _) _) (Nat.le_refl _)
  have Hb : HasU w1 (some ⟨w.heap.size + 1, 0, none⟩) 3 3 [3, 4, 5] := by
    rw [← hw1]
    have := hasU_lit (w.alloc (.cells #[.int .u64 1, .int .u64 3, .int .u64 5] 24)) [3, 4, 5] (fun x hx => by simp at hx; omega) (by simp [maxLen])
    rw [show (w.alloc (.cells #[.int .u64 1, .int .u64 3, .int .u64 5] 24)).heap.size = w.heap.size + 1 by simp] at this
    exact this
  have AN := hide (and_any _ _ 2 2 _ (hasLL_two Ha Hb) (by omega) (by decide))
  have OR := hide (fun (w' : World) (hB : Below w1.heap.size w1 w') => or_any _ _ 2 2 _ (hasLL_two (Ha.kept hB (Nat.le_refl _)) (Hb.kept hB (Nat.le_refl _))) (by omega) (by decide))
  have BU := hide (fun (w' : World) (hB : Below w1.heap.size w1 w') => but_any w' _ _ 3 3 3 3 _ _ (Ha.kept hB (Nat.le_refl _)) (Hb.kept hB (Nat.le_refl _)) (by omega) (by omega))
  have B2 : Hid (Below w1.heap.size w1 (w1.alloc (.cells #[.slice (some ⟨w.heap.size, 0, none⟩) 3 3, .slice (some ⟨w.heap.size + 1, 0, none⟩) 3 3] 23))) := (Below.refl _ _).alloc (Nat.le_refl _) _
  have hu := hide up135
  clear Ha Hb
  replace hw1 := hide hw1
  go_enter Try.func10, Try.ntmps10
  go_wp2_with fail
  rw [hw1.out]
  rw [hs1] at AN
  refine AN.out.mono ?_
  intro e w2 R
  obtain ⟨r1, a1, n1, c1, rfl, R1, Q1, u1, m1, l1⟩ := R.out (upL_two.2 hu.out)
  obtain rfl : r1 = [3, 5] := up_ext u1 (by unfold Up; decide) (fun x => (m1 x).trans (by simp [Tog]; omega))
  have B3 : Hid (Below w1.heap.size w1 w2) := B2.out.trans (Q1.mono B2.out.size)
  have OR2 := hide (OR.out w2 B3.out)
  replace R1 := hide R1
  clear R Q1 m1 u1 l1 AN OR
  go_wp2_with fail
  refine OR2.out.mono ?_
  intro e w3 R
  obtain ⟨r2, a2, n2, c2, rfl, R2, Q2, u2, m2, l2⟩ := R.out (upL_two.2 hu.out)
  obtain rfl : r2 = [1, 3, 4, 5] := up_ext u2 (by unfold Up; decide) (fun x => (m2 x).trans (by simp [Tog]; omega))
  have Q3 : Below w2.heap.size w2 w3 := ((Below.refl _ w2).alloc (Nat.le_refl _) _).trans (Q2.mono (by simp))
  have B4 : Hid (Below w1.heap.size w1 w3) := B3.out.trans (Q3.mono B3.out.size)
  have BU2 := hide (BU.out w3 B4.out)
  replace R1 := hide (R1.out.kept Q3 (Nat.le_refl _))
  replace R2 := hide R2
  clear R Q2 Q3 m2 u2 l2 OR2 BU
  go_wp2_with fail
  refine BU2.out.mono ?_
  intro e w4 R
  obtain ⟨r3, a3, n3, c3, rfl, R3, Q3, u3, m3, l3⟩ := R.out hu.out
  obtain rfl : r3 = [1] := up_ext u3 (by unfold Up; decide) (fun x => (m3 x).trans (by simp; omega))
  have B5 : Hid (Below w1.heap.size w1 w4) := B4.out.trans (Q3.mono B4.out.size)
  replace R1 := hide (R1.out.kept Q3 (Nat.le_refl _))
  replace R2 := hide (R2.out.kept Q3 (Nat.le_refl _))
  replace R3 := hide R3
  clear R Q3 m3 u3 l3 BU2
  have AL0 : Below w4.heap.size w4 (w4.alloc (.cells #[.int .u64 3, .int .u64 5] 24)) := (Below.refl _ _).alloc (Nat.le_refl _) _
  have S0 := hide (same_yes (R1.out.kept AL0 (Nat.le_refl _)) (hasU_lit w4 [3, 5] (fun x hx => by simp at hx; omega) (by simp [maxLen])) (by have := R1.out.hlen; simp at this; omega) rfl)
  replace AL0 := hide AL0
  go_wp2_with fail
  refine S0.out.mono ?_
  rintro e w5 ⟨rfl, QS0⟩
  have P0 : Below w4.heap.size w4 w5 := AL0.out.trans (QS0.mono AL0.out.size)
  have B6 : Hid (Below w1.heap.size w1 w5) := B5.out.trans (P0.mono B5.out.size)
  replace R2 := hide (R2.out.kept P0 (Nat.le_refl _))
  replace R3 := hide (R3.out.kept P0 (Nat.le_refl _))
  clear P0 QS0 S0 AL0
  have AL1 : Below w5.heap.size w5 (w5.alloc (.cells #[.int .u64 1, .int .u64 3, .int .u64 4, .int .u64 5] 24)) := (Below.refl _ _).alloc (Nat.le_refl _) _
  have S1 := hide (same_yes (R2.out.kept AL1 (Nat.le_refl _)) (hasU_lit w5 [1, 3, 4, 5] (fun x hx => by simp at hx; omega) (by simp [maxLen])) (by have := R2.out.hlen; simp at this; omega) rfl)
  replace AL1 := hide AL1
  go_wp2_with fail
  refine S1.out.mono ?_
  rintro e w6 ⟨rfl, QS1⟩
  have P1 : Below w5.heap.size w5 w6 := AL1.out.trans (QS1.mono AL1.out.size)
  have B7 : Hid (Below w1.heap.size w1 w6) := B6.out.trans (P1.mono B6.out.size)
  replace R3 := hide (R3.out.kept P1 (Nat.le_refl _))
  clear P1 QS1 S1 AL1
  have AL2 : Below w6.heap.size w6 (w6.alloc (.cells #[.int .u64 1] 24)) := (Below.refl _ _).alloc (Nat.le_refl _) _
  have S2 := hide (same_yes (R3.out.kept AL2 (Nat.le_refl _)) (hasU_lit w6 [1] (fun x hx => by simp at hx; omega) (by simp [maxLen])) (by have := R3.out.hlen; simp at this; omega) rfl)
  replace AL2 := hide AL2
  go_wp2_with fail
  refine S2.out.mono ?_
  rintro e w7 ⟨rfl, QS2⟩
  have P2 : Below w6.heap.size w6 w7 := AL2.out.trans (QS2.mono AL2.out.size)
  have B8 : Hid (Below w1.heap.size w1 w7) := B7.out.trans (P2.mono B7.out.size)
  clear P2 QS2 S2 AL2
  go_wp2_with fail
  go_ret
  exact ⟨rfl, B1.out.trans (B8.out.mono B1.out.size)⟩
/-- append of one number to a row of one's own. -/
theorem wpList_push {w : World} {ops : Array Oper} {rest : List Oper} {o : Oper} {a : Act} {Q : Exit → Act → World → Prop} (hgd : o.guard = none) (s x : Operand)
    (ho : o.op = .call { callee := .builtin .append, args := #[s, x], argTypes := #[23, 23] }) (base : Nat) (v : Value) (k : Nat) (l : List Int) (hs : a.eval s = v) (hown : w.ownsRow base 24 1 v k (l.map (Value.int .u64)))
    (ax : Nat) (b : Int) (hx : a.eval x = .slice (some ⟨ax, 0, none⟩) 1 1) (hc : w.cell? ⟨ax, 0, none⟩ = some (.int .u64 b)) (hb : k + 1 ≤ 1000000) (hbase : base ≤ w.heap.size)
    (h : ∀ g cap w', w'.ownsRow base 24 1 (.slice (some ⟨g, 0, none⟩) (k + 1) cap) (k + 1) ((l ++ [b]).map (Value.int .u64)) → w.grownBy w' v.ownBlock → wpList Try.prog ops Q rest (a.put o.dst (.slice (some ⟨g, 0, none⟩) (k + 1) cap)) w') :
    wpList Try.prog ops Q (o :: rest) a w := by
  obtain ⟨i0, hi, hz0, hz1, hz2⟩ := info_parts info24
  refine wpList_append_lies w hgd s x 23 ho base 24 i0 (.int .u64 0) 1 8 Try.underlying23 hi hz0 hz1 hz2 rfl (by decide) v k (l.map (Value.int .u64)) hs hown ⟨ax, 0, none⟩ 1 1 ([b].map (Value.int .u64)) hx
    (by simp) ?_ (nums_oneCell _) (by omega) (by unfold maxLen; omega) (by omega) hbase _ rfl ?_
  · intro j u hj
    have hj0 : j = 0 := by
      rcases Nat.lt_or_ge j 1 with h | h
      · omega
      · rw [List.getElem?_eq_none (by simpa using h)] at hj; cases hj
    subst hj0
    simp at hj
    subst hj
    rw [add_plain]; exact hc
  · intro g cap w' h1 h2 h3 _
    exact h g cap w' (by simpa using h1) h2
theorem up_snoc {l : List Int} {n m : Int} (h : Up l) (hl : ∀ x ∈ l, x ≤ n) (hm : n < m) : Up (l ++ [m]) ∧ ∀ x ∈ l ++ [m], x ≤ m := by
  refine ⟨List.pairwise_append.2 ⟨h, by simp, fun a ha b hb => ?_⟩, fun x hx => ?_⟩
  · rw [List.mem_singleton.1 hb]; have := hl a ha; omega
  · rcases List.mem_append.1 hx with hx | hx
    · have := hl x hx; omega
    · rw [List.mem_singleton.1 hx]; omega
/-- Some rising list is handed out. -/
def RetR (w : World) (N : Nat) (e : Ending) (w' : World) : Prop := ∃ r a n c, e = .returned (.slice a n c) ∧ HasU w' a n c r ∧ Below w.heap.size w w' ∧ Up r ∧ r.length ≤ N
theorem owns_alloc24 {w : World} {base : Nat} {v : Value} {n : Nat} {xs : List Value} (h : w.ownsRow base 24 1 v n xs) (o : Obj) : (w.alloc o).ownsRow base 24 1 v n xs := h.alloc o
set_option maxHeartbeats 4000000 in
set_option maxRecDepth 100000 in
theorem rising_any (w : World) (a : Option Addr) (n c : Nat) (l : List Int) (h : HasU w a n c l) : Calls Try.prog 39 #[.slice a n c] w (RetR w 40) := by
  have O := owns_empty w
  obtain ⟨w1, hw1⟩ : ∃ w1, w.alloc (.cells #[] 24) = w1 := ⟨_, rfl⟩
  have B1 : Hid (Below w.heap.size w w1) := by rw [← hw1]; exact (Below.refl _ _).alloc (Nat.le_refl _) _
  rw [hw1] at O
  have hc := hide h
  have hcm := h.capb
  have hle := h.le
  unfold maxLen at hcm
  replace hw1 := hide hw1
  clear h
  go_enter Try.func39, Try.ntmps39
  go_wp2_with fail
  rw [hw1.out]
  go_loopw [3, 4, 5] (fun vo vn vi wr => ∃ (i : Nat) (N : Int) (ao : Option Addr) (co : Nat) (r : List Int), i ≤ n ∧ i ≤ 40 ∧ vo = .slice ao i co ∧ vn = .int .u64 N ∧ vi = .int .i64 (i : Int) ∧ 0 ≤ N ∧ N ≤ 5 * (i : Int) ∧ Hid (wr.ownsRow w.heap.size 24 1 (.slice ao i co) i (r.map (Value.int .u64))) ∧ Hid (Up r ∧ ∀ x ∈ r, x ≤ N) ∧ Hid (∀ x ∈ r, 0 ≤ x ∧ x < 18446744073709551616) ∧ Hid (Below w.heap.size w wr)) (fun _ _ vi _ => 41 - (intOf vi).toNat)
  case atStart => exact ⟨0, 0, _, _, [], Nat.zero_le _, by omega, rfl, rfl, rfl, by omega, by omega, O, (⟨up_nil, fun x hx => by simp at hx⟩ : _ ∧ _), (fun x hx => by simp at hx : ∀ x ∈ ([] : List Int), 0 ≤ x ∧ x < 18446744073709551616), B1⟩
  case round =>
    obtain ⟨i, N, ao, co, r, hi, hi4, rfl, rfl, rfl, hN0, hN1, hO, hU, hR, hB⟩ := hrel
    clear O
    by_cases hlt : i < n ∧ i < 40
    · have j1 : (i : Int) < (n : Int) := by omega
      have j2 : (0 : Int) ≤ (i : Int) := by omega
      have j3 : (i : Int) < 40 := by omega
      obtain ⟨b, off, rfl, hb, c1, c2, c3⟩ := hc.out.at i hlt.1
      have c1i : wr.cell? ⟨b, off + i, none⟩ = some (.int .u64 (l.getD i 0)) := (hB.out.cell (p := ⟨b, off + i, none⟩) hb).trans c1
      clear c1
      generalize l.getD i 0 = t at *
      obtain ⟨m, hm⟩ : ∃ m : Int, m = t % 5 := ⟨_, rfl⟩
      have m1 : t % 5 = m := hm.symm
      have m2 : t.tmod 5 = m := by rw [Int.tmod_eq_emod_of_nonneg c2]; exact m1
      have m3 : 0 ≤ m ∧ m ≤ 4 := by omega
      clear hm
      have hlen := hO.out.1
      rw [List.length_map] at hlen
      have hsn := up_snoc (m := N + (1 + m)) hU.out.1 hU.out.2 (by omega)
      have hO2 : Hid ((wr.alloc (.cells #[.int .u64 (N + (1 + m))] 24)).ownsRow w.heap.size 24 1 (.slice ao i co) i (r.map (Value.int .u64))) := owns_alloc24 hO.out _
      have hsz := hB.out.size
      have hb2 := hb
      have cn : (wr.alloc (.cells #[.int .u64 (N + (1 + m))] 24)).cell? ⟨wr.heap.size, 0, none⟩ = some (.int .u64 (N + (1 + m))) := cell_row (heap_alloc_new wr _) 0 rfl
      replace hsn := hide hsn
      go_wp2_with (first | (at_builtin; refine wpList_push rfl (.tmp 25) (.tmp 27) rfl w.heap.size _ i r rfl hO2.out wr.heap.size (N + (1 + m)) rfl cn (by omega) (by simp; omega) ?_; intro g cap w3 hO3 hg3; replace hO3 := hide hO3))
      have B3 : Hid (Below w.heap.size w w3) := (hB.out.alloc (by omega) _).grown hg3 (by simp; omega) (fun k hk => (hO2.out.lt k hk).1)
      go_roundw
      case rel => exact ⟨i + 1, N + (1 + m), _, _, r ++ [N + (1 + m)], by omega, by omega, by go_num, rfl, by go_num, by omega, by omega, hO3, hsn, (fun x hx => by
        rcases List.mem_append.1 hx with hx | hx
        · exact hR.out x hx
        · rw [List.mem_singleton.1 hx]; omega : ∀ x ∈ r ++ [N + (1 + m)], 0 ≤ x ∧ x < 18446744073709551616), B3⟩
      case measure => simp [intOf]; omega
    · have fin : Hid (RetR w 40 (.returned (.slice ao i co)) wr) := by
        obtain ⟨a', c', e1, e2⟩ := hasU_of_owns hO.out hR.out
        cases e1
        exact ⟨r, ao, i, co, rfl, e2, hB.out, hU.out.1, by rw [e2.hlen]; exact hi4⟩
      by_cases hin : i < n
      · have j1 : (i : Int) < (n : Int) := by omega
        have j3 : ¬ (i : Int) < 40 := by omega
        go_wp2_with fail
        go_ret
        exact fin.out
      · have j1 : ¬ (i : Int) < (n : Int) := by omega
        go_wp2_with fail
        go_ret
        exact fin.out
end Go.Proofs.Ythkfbdcocnhebaa
