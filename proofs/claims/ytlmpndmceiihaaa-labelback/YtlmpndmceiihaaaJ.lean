/-
  rises.
-/
import Derived.Test.YtlmpndmceiihaaaH
namespace Go.Proofs.Ytlmpndmceiihaaa
open Go.RowKit
set_option linter.unusedVariables false
set_option linter.unusedSimpArgs false
attribute [local go_sem] Oper.semAt_some

theorem hasB_tail {w : World} {a : Option Addr} {len cap : Nat} {L : List Lab} (h : HasB w a len cap L) (h0 : 0 < len) : HasB w (a.map fun x => ⟨x.block, x.off + 2, none⟩) (len - 1) (cap - 1) L.tail := by
  have hl := h.hlen
  have hle := h.le
  have hc := h.capb
  obtain ⟨b, off, e1, e2, e3⟩ := h.cells h0
  subst e1
  refine ⟨by rw [List.length_tail]; omega, by omega, by omega, fun e => by simp at e, fun hp => ⟨b, off + 2, rfl, e2, fun i hi => ?_⟩⟩
  have h3 := e3 (i + 1) (by omega)
  have e : L.tail.getD i noLab = L.getD (i + 1) noLab := by simp [List.getD]
  rw [e, show off + 2 + i * 2 = off + (i + 1) * 2 by omega]
  exact h3
theorem hasB_tail1 {w : World} {a : Option Addr} {len : Nat} {L : List Lab} (h : HasB w a len 1 L) (h0 : 0 < len) (hs : a.isSome = true) : HasB w a (len - 1) 0 L.tail := by
  have hl := h.hlen
  have hle := h.le
  exact ⟨by rw [List.length_tail]; omega, by omega, Nat.zero_le _, fun _ => rfl, fun hp => by omega⟩
def riseB (L : List Lab) : Bool := (L.zip L.tail).all fun y => decide (s3 y.1.1 y.2.1 < 0)

set_option maxRecDepth 100000 in
set_option maxHeartbeats 8000000 in
theorem rises_in (n : Nat) (hn : 5 ≤ n) (a : Option Addr) (len cap : Nat) (L : List Lab) (w : World) (hL : HasB w a len cap L) (h0 : 0 < len) :
    CallsIn Fence.wide n Try.prog 22 #[.slice a len cap] w fun e w' => e = .returned (.bool (riseB L)) ∧ Below w.heap.size w w' := by
  have h1 : 1 ≤ n := by omega
  have hll := hL.hlen
  have hle := hL.le
  have j1 : (1 : Int) ≤ (len : Int) := by omega
  have hs : a.isSome = true := by obtain ⟨b, off, e, _⟩ := hL.cells h0; rw [e]; rfl
  replace hs := hide hs
  replace hL := hide hL
  by_cases hc1 : cap = 1
  · subst hc1
    obtain rfl : len = 1 := by omega
    have hM := hide (hasB_tail1 hL.out h0 hs.out)
    refine callsIn_of_wp_marks Try.func22 rfl trivial ?_ rfl
    simp only [Try.ntmps22, List.size_toArray, List.length_cons, List.length_nil, Nat.reduceAdd, Nat.reduceSub, Array.replicate_succ, Array.replicate_zero, List.push_toArray, List.append_toArray, List.nil_append, List.cons_append]
    gi_wp2
    skip
    refine ⟨trivial, (pairs_in (n - 1) _ _ _ _ _ _ _).mono ?_⟩
    rintro e w2 ⟨rfl, hw2⟩
    gi_wp2
    have b0 := Boxed.new w 4 (.bool false)
    have c1 := cell_new_l (w.alloc (.cells #[.bool false] 4)) (.slice a 1 1) 23
    have c2 := cell_new_l ((w.alloc (.cells #[.bool false] 4)).alloc (.cells #[.slice a 1 1] 23)) (.slice a 0 0) 23
    simp only [World.size_alloc] at c1 c2
    have BB : Below w.heap.size w (((w.alloc (.cells #[.bool false] 4)).alloc (.cells #[.slice a 1 1] 23)).alloc (.cells #[.slice a 0 0] 23)) := (((Below.refl _ w).alloc (Nat.le_refl _) _).alloc (by simp) _).alloc (by simp; omega) _
    have hstops := pairs_stops (n - 1) (by omega) (w.heap.size + 1) (w.heap.size + 1 + 1) a a 1 1 0 0 L L.tail _ (hL.out.kept BB (Nat.le_refl _)) (hM.out.kept BB (Nat.le_refl _)) (cell_alloc_l _ c1.1) c2.1
    have b0' : Boxed (((w.alloc (.cells #[.bool false] 4)).alloc (.cells #[.slice a 1 1] 23)).alloc (.cells #[.slice a 0 0] 23)) w.heap.size 4 (.bool false) := (b0.alloc _).alloc _
    have zz : w.heap.size < (((w.alloc (.cells #[.bool false] 4)).alloc (.cells #[.slice a 1 1] 23)).alloc (.cells #[.slice a 0 0] 23)).heap.size := by simp; omega
    clear c1 c2 hw2 b0
    generalize (((w.alloc (.cells #[.bool false] 4)).alloc (.cells #[.slice a 1 1] 23)).alloc (.cells #[.slice a 0 0] 23)) = w3 at b0' BB hstops zz ⊢
    refine wpIn_rangeFunc_ownH rfl h1 (gf := 47) (lb := #[.pointer (some ⟨w.heap.size + 1, 0, none⟩), .pointer (some ⟨w.heap.size + 1 + 1, 0, none⟩)]) rfl trivial (enters_of Try.func47 (by kernel_rfl) rfl)
      hstops belowK_t (belowK_b (Nat.le_refl _)) (Below.refl _ _) (fun _ => rfl)
      (fun pre W => ((∀ y ∈ pre, s3 y.1.1 y.2.1 < 0) ∧ Boxed W w.heap.size 4 (.bool false)) ∧ Below w3.heap.size w3 W)
      (fun c pre W => c = .ret ∧ (∃ pre' x, pre = pre' ++ [x] ∧ ¬ s3 x.1.1 x.2.1 < 0 ∧ Boxed W w.heap.size 4 (.bool false)) ∧ Below w.heap.size w W)
      (OwnFrom.and (fun pre W W' row hs hg hr => ⟨hs.1, box_own hs.2 hg (fun r e => (hr r e).2)⟩) (ownFrom_below (Nat.le_refl _) (Nat.le_refl _)))
      (fun c pre W W' row hs hg hr => by
        obtain ⟨e, ⟨pre', x, h2, h4, h5⟩, h6⟩ := hs
        exact ⟨e, ⟨pre', x, h2, h4, box_own h5 hg (fun r e => (hr r e).2)⟩, (ownFrom_below (β := Unit) (w₀ := w) (Nat.le_refl _) (show w.heap.size ≤ w3.heap.size by omega)) () W W' row h6 hg hr⟩)
      ⟨⟨(fun y hy => by cases hy), b0'⟩, Below.refl _ _⟩
      (fun x act W' => ∃ g1 g2, act = { tmps := #[Value.slice a 1 1, undef, Value.pointer (some ⟨w.heap.size, 0, none⟩), .pointer (some ⟨g1, 0, none⟩), .pointer (some ⟨g2, 0, none⟩), Value.slice a 1 1, Value.slice a 1 1, Value.slice a 0 0, Value.func (Fn.func 47) #[] #[Value.pointer (some ⟨w.heap.size + 1, 0, none⟩), Value.pointer (some ⟨w.heap.size + 1 + 1, 0, none⟩)], labV x.1, labV x.2, undef, undef, undef, undef, undef, undef], defers := [] } ∧ W'.heap[g1]? = some (.cells #[.string x.1.1, .string x.1.2] 38 (0, 0)) ∧ W'.heap[g2]? = some (.cells #[.string x.2.1, .string x.2.2] 38 (0, 0)))
      (fun x act _ W W' row hs hg hr => by
        obtain ⟨g1, g2, e, hb1, hb2⟩ := hs
        exact ⟨g1, g2, e, box_own hb1 hg (fun r e => (hr r e).2), box_own hb2 hg (fun r e => (hr r e).2)⟩) ?assign1 ?body1 ?done1 ?stop1
    case assign1 =>
      rintro l pre x W K ⟨⟨hz, hb⟩, hB⟩ hK
      have hKK := hide (hK)
      clear hK
      have hsz := hB.size
      simp only [pairV, labV]
      gi_wp2
      exact hKK.out _ _ (((KeepsOthers.alloc W _).trans (KeepsOthers.alloc _ _)).from _) (((Below.refl _ W).alloc hsz _).alloc (by simp; omega) _) ⟨⟨hz, (hb.alloc _).alloc _⟩, (hB.alloc hsz _).alloc (by simp; omega) _⟩ ⟨W.heap.size, W.heap.size + 1, rfl, (Below.heap_alloc _ _ _ (by simp)).trans (heap_alloc_new W _), by have := heap_alloc_new (W.alloc (.cells #[.string x.1.1, .string x.1.2] 38)) (.cells #[.string x.2.1, .string x.2.2] 38); rwa [World.size_alloc] at this⟩
    case body1 =>
      rintro l pre x a2 W hwl hrec ⟨⟨hz, hb⟩, hB⟩ ⟨g1, g2, rfl, hg1, hg2⟩ hlen
      have hsz := hB.size
      have y0 := (pair_cells hg1).1
      have y2 := (pair_cells hg2).1
      have q6 := hb.cell
      have f6 := hb.frozen
      replace hz := hide hz
      replace hb := hide hb
      replace hB := hide hB
      clear hg1 hg2
      simp only [labV]
      by_cases hq : s3 x.1.1 x.2.1 < 0
      · have hq2 : ¬ (0 ≤ s3 x.1.1 x.2.1) := by omega
        gi_wp2
        refine ⟨trivial, fun _ => by omega, (callsIn_wide.2 (ahead_any _ _ _)).mono ?_⟩
        rintro e W6 ⟨rfl, hW6⟩
        replace hW6 := hW6.symm
        subst hW6
        gi_wp2
        exact ⟨KeepsFrom.refl _ _, Below.refl _ _, ⟨fun p q r t hy => by
          rcases List.mem_append.1 hy with h | h
          · exact hz.out _ h
          · have e := List.mem_singleton.1 h
            rw [← e] at hq
            exact hq, hb.out⟩, hB.out⟩
      · have hq2 : 0 ≤ s3 x.1.1 x.2.1 := by omega
        gi_wp2
        refine ⟨trivial, fun _ => by omega, (callsIn_wide.2 (ahead_any _ _ _)).mono ?_⟩
        rintro e W6 ⟨rfl, hW6⟩
        replace hW6 := hW6.symm
        subst hW6
        gi_wp2
        exact ⟨(KeepsOthers.setCell _ _ _).from _, rfl, ⟨pre, x.1.1, x.1.2, x.2.1, ⟨x.2.2, rfl⟩, hq2, hb.out.set _⟩, (BB.trans (hB.out.mono (Nat.le_of_lt zz))).setCell (Nat.le_refl _) _⟩
    case done1 =>
      rintro D ys W hD hys ⟨⟨hz, hb⟩, hB⟩ hK
      have q := hb.cell
      have qf := hb.frozen
      replace hb := hide hb
      gi_wp2
      have hK2 : (W.setCell ⟨w.heap.size, 0, none⟩ (.bool true)).heap[D]? = some (.deferred (some [])) := (Below.heap_setCell W ⟨w.heap.size, 0, none⟩ _ _ (by show D ≠ w.heap.size; omega)).trans hK
      refine ⟨by simp, .inl ⟨_, _, rfl, run_takeDeferred hK2, ?_⟩⟩
      have hc5 : ((W.setCell ⟨w.heap.size, 0, none⟩ (.bool true)).putObj D (.deferred none)).cell? ⟨w.heap.size, 0, none⟩ = some (.bool true) :=
        (World.cell?_of_block (World.putObj_heap_other (k := w.heap.size) (by omega))).trans (hb.out.set _).cell
      refine ⟨.bool true, (by simp [results, Try.f22, go_sem, hc5]), ?_⟩
      subst hys
      exact ⟨by rw [show riseB L = true by unfold riseB; rw [List.all_eq_true]; exact fun y hy => decide_eq_true (hz y hy)], ((BB.trans (hB.mono (Nat.le_of_lt zz))).setCell (Nat.le_refl _) _).trans (belowK_b (w := w) (Nat.le_refl _) _ D _ _ (by omega) hK2 rfl rfl)⟩
    case stop1 =>
      rintro D c pre W hD hpre ⟨rfl, ⟨pre', x, rfl, h4, h5⟩, hB⟩ hK
      gi_wp2
      refine ⟨by simp, .inl ⟨_, _, rfl, run_takeDeferred hK, ?_⟩⟩
      have hc5 : (W.putObj D (.deferred none)).cell? ⟨w.heap.size, 0, none⟩ = some (.bool false) :=
        (World.cell?_of_block (World.putObj_heap_other (k := w.heap.size) (by omega))).trans h5.cell
      refine ⟨.bool false, (by simp [results, Try.f22, go_sem, hc5]), ?_⟩
      exact ⟨by rw [show riseB L = false by unfold riseB; rw [List.all_eq_false]; exact ⟨x, hpre.subset (by simp), by simpa using h4⟩], hB.trans (belowK_b (w := w) (Nat.le_refl _) _ D _ _ (by omega) hK rfl rfl)⟩
  · have hc2 := hc1
    have hM := hide (hasB_tail hL.out h0)
    refine callsIn_of_wp_marks Try.func22 rfl trivial ?_ rfl
    simp only [Try.ntmps22, List.size_toArray, List.length_cons, List.length_nil, Nat.reduceAdd, Nat.reduceSub, Array.replicate_succ, Array.replicate_zero, List.push_toArray, List.append_toArray, List.nil_append, List.cons_append]
    gi_wp2
    generalize hga : Option.map _ a = a' at hM ⊢
    generalize hgc : cap - 1 = cap' at hM ⊢
    clear hga hgc
    refine ⟨trivial, (pairs_in (n - 1) _ _ _ _ _ _ _).mono ?_⟩
    rintro e w2 ⟨rfl, hw2⟩
    gi_wp2
    have b0 := Boxed.new w 4 (.bool false)
    have c1 := cell_new_l (w.alloc (.cells #[.bool false] 4)) (.slice a len cap) 23
    have c2 := cell_new_l ((w.alloc (.cells #[.bool false] 4)).alloc (.cells #[.slice a len cap] 23)) (.slice a' (len - 1) cap') 23
    simp only [World.size_alloc] at c1 c2
    have BB : Below w.heap.size w (((w.alloc (.cells #[.bool false] 4)).alloc (.cells #[.slice a len cap] 23)).alloc (.cells #[.slice a' (len - 1) cap'] 23)) := (((Below.refl _ w).alloc (Nat.le_refl _) _).alloc (by simp) _).alloc (by simp; omega) _
    have hstops := pairs_stops (n - 1) (by omega) (w.heap.size + 1) (w.heap.size + 1 + 1) a a' len cap (len - 1) cap' L L.tail _ (hL.out.kept BB (Nat.le_refl _)) (hM.out.kept BB (Nat.le_refl _)) (cell_alloc_l _ c1.1) c2.1
    have b0' : Boxed (((w.alloc (.cells #[.bool false] 4)).alloc (.cells #[.slice a len cap] 23)).alloc (.cells #[.slice a' (len - 1) cap'] 23)) w.heap.size 4 (.bool false) := (b0.alloc _).alloc _
    have zz : w.heap.size < (((w.alloc (.cells #[.bool false] 4)).alloc (.cells #[.slice a len cap] 23)).alloc (.cells #[.slice a' (len - 1) cap'] 23)).heap.size := by simp; omega
    clear c1 c2 hw2 b0
    generalize (((w.alloc (.cells #[.bool false] 4)).alloc (.cells #[.slice a len cap] 23)).alloc (.cells #[.slice a' (len - 1) cap'] 23)) = w3 at b0' BB hstops zz ⊢
    refine wpIn_rangeFunc_ownH rfl h1 (gf := 47) (lb := #[.pointer (some ⟨w.heap.size + 1, 0, none⟩), .pointer (some ⟨w.heap.size + 1 + 1, 0, none⟩)]) rfl trivial (enters_of Try.func47 (by kernel_rfl) rfl)
      hstops belowK_t (belowK_b (Nat.le_refl _)) (Below.refl _ _) (fun _ => rfl)
      (fun pre W => ((∀ y ∈ pre, s3 y.1.1 y.2.1 < 0) ∧ Boxed W w.heap.size 4 (.bool false)) ∧ Below w3.heap.size w3 W)
      (fun c pre W => c = .ret ∧ (∃ pre' x, pre = pre' ++ [x] ∧ ¬ s3 x.1.1 x.2.1 < 0 ∧ Boxed W w.heap.size 4 (.bool false)) ∧ Below w.heap.size w W)
      (OwnFrom.and (fun pre W W' row hs hg hr => ⟨hs.1, box_own hs.2 hg (fun r e => (hr r e).2)⟩) (ownFrom_below (Nat.le_refl _) (Nat.le_refl _)))
      (fun c pre W W' row hs hg hr => by
        obtain ⟨e, ⟨pre', x, h2, h4, h5⟩, h6⟩ := hs
        exact ⟨e, ⟨pre', x, h2, h4, box_own h5 hg (fun r e => (hr r e).2)⟩, (ownFrom_below (β := Unit) (w₀ := w) (Nat.le_refl _) (show w.heap.size ≤ w3.heap.size by omega)) () W W' row h6 hg hr⟩)
      ⟨⟨(fun y hy => by cases hy), b0'⟩, Below.refl _ _⟩
      (fun x act W' => ∃ g1 g2, act = { tmps := #[Value.slice a len cap, undef, Value.pointer (some ⟨w.heap.size, 0, none⟩), .pointer (some ⟨g1, 0, none⟩), .pointer (some ⟨g2, 0, none⟩), Value.slice a len cap, Value.slice a len cap, Value.slice a' (len - 1) cap', Value.func (Fn.func 47) #[] #[Value.pointer (some ⟨w.heap.size + 1, 0, none⟩), Value.pointer (some ⟨w.heap.size + 1 + 1, 0, none⟩)], labV x.1, labV x.2, undef, undef, undef, undef, undef, undef], defers := [] } ∧ W'.heap[g1]? = some (.cells #[.string x.1.1, .string x.1.2] 38 (0, 0)) ∧ W'.heap[g2]? = some (.cells #[.string x.2.1, .string x.2.2] 38 (0, 0)))
      (fun x act _ W W' row hs hg hr => by
        obtain ⟨g1, g2, e, hb1, hb2⟩ := hs
        exact ⟨g1, g2, e, box_own hb1 hg (fun r e => (hr r e).2), box_own hb2 hg (fun r e => (hr r e).2)⟩) ?assign2 ?body2 ?done2 ?stop2
    case assign2 =>
      rintro l pre x W K ⟨⟨hz, hb⟩, hB⟩ hK
      have hKK := hide (hK)
      clear hK
      have hsz := hB.size
      simp only [pairV, labV]
      gi_wp2
      exact hKK.out _ _ (((KeepsOthers.alloc W _).trans (KeepsOthers.alloc _ _)).from _) (((Below.refl _ W).alloc hsz _).alloc (by simp; omega) _) ⟨⟨hz, (hb.alloc _).alloc _⟩, (hB.alloc hsz _).alloc (by simp; omega) _⟩ ⟨W.heap.size, W.heap.size + 1, rfl, (Below.heap_alloc _ _ _ (by simp)).trans (heap_alloc_new W _), by have := heap_alloc_new (W.alloc (.cells #[.string x.1.1, .string x.1.2] 38)) (.cells #[.string x.2.1, .string x.2.2] 38); rwa [World.size_alloc] at this⟩
    case body2 =>
      rintro l pre x a2 W hwl hrec ⟨⟨hz, hb⟩, hB⟩ ⟨g1, g2, rfl, hg1, hg2⟩ hlen
      have hsz := hB.size
      have y0 := (pair_cells hg1).1
      have y2 := (pair_cells hg2).1
      have q6 := hb.cell
      have f6 := hb.frozen
      replace hz := hide hz
      replace hb := hide hb
      replace hB := hide hB
      clear hg1 hg2
      simp only [labV]
      by_cases hq : s3 x.1.1 x.2.1 < 0
      · have hq2 : ¬ (0 ≤ s3 x.1.1 x.2.1) := by omega
        gi_wp2
        refine ⟨trivial, fun _ => by omega, (callsIn_wide.2 (ahead_any _ _ _)).mono ?_⟩
        rintro e W6 ⟨rfl, hW6⟩
        replace hW6 := hW6.symm
        subst hW6
        gi_wp2
        exact ⟨KeepsFrom.refl _ _, Below.refl _ _, ⟨fun p q r t hy => by
          rcases List.mem_append.1 hy with h | h
          · exact hz.out _ h
          · have e := List.mem_singleton.1 h
            rw [← e] at hq
            exact hq, hb.out⟩, hB.out⟩
      · have hq2 : 0 ≤ s3 x.1.1 x.2.1 := by omega
        gi_wp2
        refine ⟨trivial, fun _ => by omega, (callsIn_wide.2 (ahead_any _ _ _)).mono ?_⟩
        rintro e W6 ⟨rfl, hW6⟩
        replace hW6 := hW6.symm
        subst hW6
        gi_wp2
        exact ⟨(KeepsOthers.setCell _ _ _).from _, rfl, ⟨pre, x.1.1, x.1.2, x.2.1, ⟨x.2.2, rfl⟩, hq2, hb.out.set _⟩, (BB.trans (hB.out.mono (Nat.le_of_lt zz))).setCell (Nat.le_refl _) _⟩
    case done2 =>
      rintro D ys W hD hys ⟨⟨hz, hb⟩, hB⟩ hK
      have q := hb.cell
      have qf := hb.frozen
      replace hb := hide hb
      gi_wp2
      have hK2 : (W.setCell ⟨w.heap.size, 0, none⟩ (.bool true)).heap[D]? = some (.deferred (some [])) := (Below.heap_setCell W ⟨w.heap.size, 0, none⟩ _ _ (by show D ≠ w.heap.size; omega)).trans hK
      refine ⟨by simp, .inl ⟨_, _, rfl, run_takeDeferred hK2, ?_⟩⟩
      have hc5 : ((W.setCell ⟨w.heap.size, 0, none⟩ (.bool true)).putObj D (.deferred none)).cell? ⟨w.heap.size, 0, none⟩ = some (.bool true) :=
        (World.cell?_of_block (World.putObj_heap_other (k := w.heap.size) (by omega))).trans (hb.out.set _).cell
      refine ⟨.bool true, (by simp [results, Try.f22, go_sem, hc5]), ?_⟩
      subst hys
      exact ⟨by rw [show riseB L = true by unfold riseB; rw [List.all_eq_true]; exact fun y hy => decide_eq_true (hz y hy)], ((BB.trans (hB.mono (Nat.le_of_lt zz))).setCell (Nat.le_refl _) _).trans (belowK_b (w := w) (Nat.le_refl _) _ D _ _ (by omega) hK2 rfl rfl)⟩
    case stop2 =>
      rintro D c pre W hD hpre ⟨rfl, ⟨pre', x, rfl, h4, h5⟩, hB⟩ hK
      gi_wp2
      refine ⟨by simp, .inl ⟨_, _, rfl, run_takeDeferred hK, ?_⟩⟩
      have hc5 : (W.putObj D (.deferred none)).cell? ⟨w.heap.size, 0, none⟩ = some (.bool false) :=
        (World.cell?_of_block (World.putObj_heap_other (k := w.heap.size) (by omega))).trans h5.cell
      refine ⟨.bool false, (by simp [results, Try.f22, go_sem, hc5]), ?_⟩
      exact ⟨by rw [show riseB L = false by unfold riseB; rw [List.all_eq_false]; exact ⟨x, hpre.subset (by simp), by simpa using h4⟩], hB.trans (belowK_b (w := w) (Nat.le_refl _) _ D _ _ (by omega) hK rfl rfl)⟩
theorem rises_any (a : Option Addr) (len cap : Nat) (L : List Lab) (w : World) (hL : HasB w a len cap L) (h0 : 0 < len) :
    Calls Try.prog 22 #[.slice a len cap] w fun e w' => e = .returned (.bool (riseB L)) ∧ Below w.heap.size w w' :=
  callsIn_wide.1 (rises_in 5 (by omega) a len cap L w hL h0)
end Go.Proofs.Ytlmpndmceiihaaa
