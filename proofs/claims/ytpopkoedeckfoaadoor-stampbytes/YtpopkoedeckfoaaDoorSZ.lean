/-
  SameInts; rising.
-/
import Derived.Test.YtpopkoedeckfoaaDoorSV
import Derived.BigQuiet
namespace Go.Proofs.YtpopkoedeckfoaaDoor
open Go.RowKit
set_option linter.unusedVariables false
set_option linter.unusedSimpArgs false

set_option maxHeartbeats 1000000 in
theorem same_ints (w : World) (a a' : Option Addr) (len cap cap' : Nat) (l : List Int) (h : HasI w a len cap l) (h' : HasI w a' len cap' l) (hs : len ≤ 1000000) :
    Calls Tryd.prog 32 #[.slice a len cap, .slice a' len cap'] w fun e w' => e = .returned (.bool true) ∧ Below w.heap.size w w' := by
  have hc := hide h.cells
  have hc' := hide h'.cells
  have i1 : (len : Int) ≤ 1000000 := by omega
  clear h h'
  go_enter Tryd.func32, Tryd.ntmps32
  go_wp2_with fail
  go_loopw [5] (fun iv wr => ∃ i : Nat, i ≤ len ∧ iv = .int .i64 (i : Int) ∧ Hid (Below w.heap.size w wr)) (fun iv _ => len - (intOf iv).toNat)
  case atStart => exact ⟨0, Nat.zero_le _, rfl, Below.refl _ _⟩
  case round =>
    obtain ⟨i, hi, rfl, B⟩ := hrel
    by_cases hlt : i < len
    · have j1 : (i : Int) < (len : Int) := by omega
      have j2 : (0 : Int) ≤ (i : Int) := by omega
      obtain ⟨b, off, rfl, hb, c1⟩ := hc.out (by omega)
      obtain ⟨b', off', rfl, hb', c2⟩ := hc'.out (by omega)
      have c1i : wr.cell? ⟨b, off + i, none⟩ = some (.int .i64 (l.getD i 0)) := (B.out.cell (p := ⟨b, off + i, none⟩) hb).trans (c1 i hlt)
      have c2i : wr.cell? ⟨b', off' + i, none⟩ = some (.int .i64 (l.getD i 0)) := (B.out.cell (p := ⟨b', off' + i, none⟩) hb').trans (c2 i hlt)
      clear c1 c2
      generalize l.getD i 0 = t at *
      have j4 : i + 1 ≤ len := by omega
      go_wp2_with fail
      go_quiet (fail)
      go_wp2_with fail
      go_roundw
      case rel => exact ⟨i + 1, j4, by go_num, below_drewN B.out nq⟩
      case measure => simp [intOf]; omega
    · obtain rfl : i = len := by omega
      have j1 : ¬ (i : Int) < (i : Int) := by omega
      go_wp2_with fail
      go_ret
      exact ⟨rfl, B.out⟩

theorem getD_app {l m : List Int} {j : Nat} (h : j < l.length) : (l ++ m).getD j 0 = l.getD j 0 := by simp [List.getD, List.getElem?_append_left h]
theorem getD_last (l : List Int) (t : Int) : (l ++ [t]).getD l.length 0 = t := by simp [List.getD]
theorem okL_app {l m : List Int} {j : Nat} (h : j < l.length) (hk : okL l j) : okL (l ++ m) j := by
  unfold okL tL tT at *
  rw [getD_app h]
  by_cases h0 : j = 0
  · rw [if_pos h0] at hk ⊢; exact hk
  · rw [if_neg h0] at hk ⊢
    rw [getD_app (show j - 1 < l.length by omega)]; exact hk
/-- A list of rising times, one more. -/
theorem okL_snoc {l : List Int} {t t' : Int} (hl : 0 < l.length) (h : ∀ j, j < l.length → okL l j) (ht : l.getD (l.length - 1) 0 = t) (h1 : t < t') (h2 : t' ≤ 35184372088832) : ∀ j, j < (l ++ [t']).length → okL (l ++ [t']) j := by
  intro j hj
  rw [List.length_append, List.length_singleton] at hj
  rcases Nat.lt_or_ge j l.length with h3 | h3
  · exact okL_app h3 (h j h3)
  · obtain rfl : j = l.length := by omega
    have hge := (h (l.length - 1) (by omega)).ge
    unfold okL tL tT
    rw [getD_last, if_neg (by omega), getD_app (by omega), ht]
    rw [ht] at hge
    exact ⟨by omega, h2, .inr (by omega)⟩

theorem wpList_lies3 {w : World} {ops : Array Oper} {rest : List Oper} {o : Oper} {a : Act} {Q : Exit → Act → World → Prop} (hgd : o.guard = none) (s x : Operand)
    (ho : o.op = .call { callee := .builtin .append, args := #[s, x], argTypes := #[57, 57] }) (base : Nat) (v : Value) (k : Nat) (l : List Int) (hs : a.eval s = v) (hown : w.ownsRow base 3 1 v k (l.map (Value.int .i64)))
    (ax : Nat) (b : Int) (hx : a.eval x = .slice (some ⟨ax, 0, none⟩) 1 1) (hc : w.cell? ⟨ax, 0, none⟩ = some (.int .i64 b)) (hb : k + 1 ≤ 1000000) (hbase : base ≤ w.heap.size)
    (h : ∀ g cap w', w'.ownsRow base 3 1 (.slice (some ⟨g, 0, none⟩) (k + 1) cap) (k + 1) ((l ++ [b]).map (Value.int .i64)) → w.grownBy w' v.ownBlock → wpList Tryd.prog ops Q rest (a.put o.dst (.slice (some ⟨g, 0, none⟩) (k + 1) cap)) w') :
    wpList Tryd.prog ops Q (o :: rest) a w := by
  obtain ⟨i0, hi, hz0, hz1, hz2⟩ := info_parts info3
  refine wpList_append_lies w hgd s x 57 ho base 3 i0 (.int .i64 0) 1 8 Tryd.underlying57 hi hz0 hz1 hz2 rfl (by decide) v k (l.map (Value.int .i64)) hs hown ⟨ax, 0, none⟩ 1 1 ([b].map (Value.int .i64)) hx
    (by simp) ?_ (ints_oneCell _ _) (by omega) (by unfold maxLen; omega) (by omega) hbase _ rfl ?_
  · intro j u hj
    have hj0 : j = 0 := by
      rcases Nat.lt_or_ge j 1 with h | h
      · omega
      · rw [List.getElem?_eq_none (by simpa using h)] at hj; cases hj
    subst hj0
    simp at hj
    subst hj
    rw [add_plain]; exact hc
  · intro g cap w' h1 h2 h3 _
    exact h g cap w' (by simpa using h1) h2

set_option maxRecDepth 100000 in
set_option maxHeartbeats 4000000 in
theorem rising_any (w : World) (t0 : Int) (a : Option Addr) (len cap : Nat) (ls : List Int) (wt : (Lit.int .i64 t0).wf = true) (h : HasI w a len cap ls) :
    Calls Tryd.prog 33 #[.int .i64 t0, .slice a len cap] w fun e w' => ∃ l a' n' cap', e = .returned (.slice a' n' cap') ∧ HasI w' a' n' cap' l ∧ n' ≤ 61 ∧ (∀ j, j < l.length → okL l j) ∧ Below w.heap.size w w' := by
  obtain ⟨t, g0, G0⟩ := among_ex t0 17592186044416 17592186044416 (by omega) wt (by omega) (by omega)
  replace G0 := hide G0
  have hcap := h.capb
  have hle := h.le
  unfold maxLen at hcap
  have hcs := hide h.cells
  have hrg := hide h.c_in
  clear wt h
  have i0 : (t : Int) < 17592186044416 := by omega
  have i1 : (len : Int) ≤ 9223372036854775807 := by omega
  go_enter Tryd.func33, Tryd.ntmps33
  go_wp2_with fail
  refine (G0.out _).mono ?_
  rintro e wq ⟨rfl, rfl⟩
  go_wp2_with fail
  have B0 : Hid (Below wq.heap.size wq (wq.alloc (.cells #[.int .i64 (t : Int)] 3))) := (Below.refl _ _).alloc (Nat.le_refl _) _
  have O0 : Hid ((wq.alloc (.cells #[.int .i64 (t : Int)] 3)).ownsRow wq.heap.size 3 1 (.slice (some ⟨wq.heap.size, 0, none⟩) 1 1) 1 ([(t : Int)].map (Value.int .i64))) := by
    exact ⟨by simp, .inr ⟨wq.heap.size, 1, #[.int .i64 (t : Int)], rfl, Nat.le_refl _, heap_alloc_new wq _, Nat.le_refl _, by unfold maxLen; omega, by simp, by simp⟩⟩
  have L0 : Hid ([(t : Int)].length = 0 + 1 ∧ (∀ j, j < [(t : Int)].length → okL [(t : Int)] j) ∧ [(t : Int)].getD 0 0 = (t : Int)) := by
    refine ⟨rfl, fun j hj => ?_, rfl⟩
    simp at hj; subst hj
    exact ⟨by simp [List.getD], by simp [List.getD]; omega, .inl rfl⟩
  go_loopw [5, 6, 7] (fun tv lv iv wr => ∃ (i T : Nat) (l : List Int), i ≤ len ∧ i ≤ 60 ∧ iv = .int .i64 (i : Int) ∧ tv = .int .i64 (T : Int) ∧ T ≤ 17592186044416 + i * 175921860444 ∧ Hid (l.length = i + 1 ∧ (∀ j, j < l.length → okL l j) ∧ l.getD i 0 = (T : Int)) ∧ Hid (wr.ownsRow wq.heap.size 3 1 lv (i + 1) (l.map (Value.int .i64))) ∧ Hid (Below wq.heap.size wq wr)) (fun _ _ iv _ => 60 - (intOf iv).toNat)
  case atStart => exact ⟨0, t, [(t : Int)], Nat.zero_le _, Nat.zero_le _, rfl, rfl, by omega, L0, O0, B0⟩
  case round =>
    clear L0 O0 B0
    obtain ⟨i, T, l, hi, hi6, rfl, rfl, hTb, hL, O, B⟩ := hrel
    have hfin : ∀ (e : Unit), Hid (∃ a' n' cap', u6 = .slice a' n' cap' ∧ HasI wr a' n' cap' l ∧ n' ≤ 61) := fun _ => by
      obtain ⟨a', cap', e, hh⟩ := hasI_of_owns O.out (fun x hx => by
        obtain ⟨j, hj, rfl⟩ := List.getElem_of_mem hx
        have := hL.out.2.1 j hj
        have h1 := this.ge; have h2 := this.le
        simp only [List.getD, List.getElem?_eq_getElem hj, Option.getD_some] at h1 h2
        omega)
      exact ⟨a', i + 1, cap', e, hh, by omega⟩
    by_cases hlt : i < len
    · by_cases hl6 : i < 60
      · have j1 : (i : Int) < (len : Int) := by omega
        have j2 : (i : Int) < 60 := by omega
        obtain ⟨b, off, rfl, hb, c1⟩ := hcs.out (by omega)
        have hc : wr.cell? ⟨b, off + i, none⟩ = some (.int .i64 (iC ls i)) := (B.out.cell (p := ⟨b, off + i, none⟩) hb).trans (c1 i hlt)
        have hr := hrg.out i hlt
        obtain ⟨m, gm, G⟩ := among_ex (iC ls i) 175921860444 175921860444 (by omega) (by simp [Lit.wf, IntKind.min, IntKind.max, IntKind.signed, IntKind.bits]; omega) (by omega) (by omega)
        replace G := hide G
        generalize iC ls i = ci at *
        obtain ⟨s1, hs1⟩ : ∃ s1, 1 + m = s1 := ⟨_, rfl⟩
        obtain ⟨T1, hT1⟩ : ∃ T1, T + s1 = T1 := ⟨_, rfl⟩
        have e1 : (1 : Int) + (m : Int) = (s1 : Int) := by omega
        have e2 : (T : Int) + (s1 : Int) = (T1 : Int) := by omega
        have hT1b : T1 ≤ 17592186044416 + (i + 1) * 175921860444 := by omega
        have k1 : (T1 : Int) ≤ 30000000000000 := by omega
        have k2 : (T : Int) ≤ 30000000000000 := by omega
        have k3 : (m : Int) < 175921860444 := by omega
        have k4 : (s1 : Int) ≤ 175921860444 := by omega
        have hL' : Hid ((l ++ [(T1 : Int)]).length = i + 1 + 1 ∧ (∀ j, j < (l ++ [(T1 : Int)]).length → okL (l ++ [(T1 : Int)]) j) ∧ (l ++ [(T1 : Int)]).getD (i + 1) 0 = (T1 : Int)) := by
          obtain ⟨q1, q2, q3⟩ := hL.out
          refine ⟨by simp [q1], okL_snoc (by omega) q2 (t := (T : Int)) (by rw [q1]; exact q3) (by omega) (by omega), ?_⟩
          have := getD_last l (T1 : Int)
          rwa [q1] at this
        have hoA : Hid ((wr.alloc (.cells #[.int .i64 (T1 : Int)] 3)).ownsRow wq.heap.size 3 1 u6 (i + 1) (l.map (Value.int .i64))) := O.out.alloc _
        have hcA : Hid ((wr.alloc (.cells #[.int .i64 (T1 : Int)] 3)).cell? ⟨wr.heap.size, 0, none⟩ = some (.int .i64 (T1 : Int))) := (Boxed.new wr 3 (.int .i64 (T1 : Int))).cell
        have hbA : Hid (Below wq.heap.size wq (wr.alloc (.cells #[.int .i64 (T1 : Int)] 3))) := B.out.alloc B.out.size _
        have hown : Hid (∀ k, u6.ownBlock = some k → wq.heap.size ≤ k) := fun k hk => (O.out.lt k hk).1
        replace hTb := hide hTb
        replace hT1b := hide hT1b
        clear c1 hr gm hfin hs1 hT1
        go_wp2_with fail
        refine (G.out _).mono ?_
        rintro e wx ⟨rfl, rfl⟩
        go_wp2_with (refine wpList_lies3 rfl (.tmp 30) (.tmp 32) rfl wq.heap.size u6 (i + 1) l rfl hoA.out _ (T1 : Int) rfl hcA.out (by omega) hbA.out.size ?_; intro g2 cap2 w2 o2 G2)
        have B2 := hide (hbA.out.grown G2 hbA.out.size (fun k e => hown.out k e))
        replace o2 := hide o2
        go_wp2_with fail
        go_roundw
        case rel => exact ⟨i + 1, T1, l ++ [(T1 : Int)], by omega, by omega, by go_num, rfl, hT1b.out, hL', o2, B2⟩
        case measure => simp [intOf]; omega
      · have j1 : (i : Int) < (len : Int) := by omega
        have j2 : ¬ (i : Int) < 60 := by omega
        obtain ⟨a', n', cap', hv, hh, hn⟩ := (hfin ()).out
        replace hh := hide hh
        go_wp2_with fail
        go_ret
        exact ⟨l, a', n', cap', rfl, hh.out, hn, hL.out.2.1, B.out⟩
    · have j1 : ¬ (i : Int) < (len : Int) := by omega
      obtain ⟨a', n', cap', hv, hh, hn⟩ := (hfin ()).out
      replace hh := hide hh
      go_wp2_with fail
      go_ret
      exact ⟨l, a', n', cap', rfl, hh.out, hn, hL.out.2.1, B.out⟩
end Go.Proofs.YtpopkoedeckfoaaDoor
