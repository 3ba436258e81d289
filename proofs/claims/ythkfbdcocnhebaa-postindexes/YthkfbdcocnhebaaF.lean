/-
  kept.
-/
import Derived.Test.YthkfbdcocnhebaaE
namespace Go.Proofs.Ythkfbdcocnhebaa
open Go.RowKit Go.Shelf
set_option linter.unusedVariables false
set_option linter.unusedSimpArgs false
attribute [local go_sem] Oper.semAt_some

theorem want_bits {k p : Int} (hk : k = 1 ∨ k = 4 ∨ k = 7) (hp : p = 1 ∨ p = 2 ∨ p = 4) : (bits BinOp.and IntKind.i64 p k != 0) = wantB k p := by
  rcases hk with rfl | rfl | rfl <;> rcases hp with rfl | rfl | rfl <;> decide
theorem ownU_typ {w : World} {base n k : Nat} {v : Value} {xs : List Value} (h : w.ownsRow base 24 1 v n xs) (hk : v.ownBlock = some k) : ∃ cur, w.heap[k]? = some (.cells cur 24 (0, 0)) := by
  rcases h.2 with ⟨rfl, _⟩ | ⟨g, cap, cur, rfl, _, hb, _⟩
  · cases hk
  · cases hk; exact ⟨cur, hb⟩
theorem ownU_one {w : World} {base n : Nat} {v : Value} {xs : List Value} (h : w.ownsRow base 24 1 v n xs) : v.oneCell' = true := by
  rcases h.2 with ⟨rfl, _⟩ | ⟨_, _, _, rfl, _⟩ <;> rfl
theorem ownU_kept {w w' : World} {base n : Nat} {v : Value} {xs : List Value} (h : w.ownsRow base 24 1 v n xs) (hk : ∀ k cur, base ≤ k → v.ownBlock = some k → w.heap[k]? = some (.cells cur 24 (0, 0)) → w'.heap[k]? = some (.cells cur 24 (0, 0))) : w'.ownsRow base 24 1 v n xs := by
  refine ⟨h.1, ?_⟩
  rcases h.2 with h1 | ⟨g, cap, cur, rfl, h2, h3, h4⟩
  · exact .inl h1
  · exact .inr ⟨g, cap, cur, rfl, h2, hk g cur h2 rfl h3, h4⟩
theorem notB {W : World} {k : Nat} {o : Obj} {t : TypeId} {xs : Array Value} (h : W.heap[k]? = some (.cells xs t (0, 0))) (ho : W.heap[k]? = some o) (hn : o.isCells = false) : False := by
  rw [h] at ho; cases ho; cases hn
/-- What was kept so far, in a box of its own. -/
structure Ap (w0 : World) (bk bx : Nat) (k : Int) (pre : List Mp) (W : World) : Prop where
  bl : Below w0.heap.size w0 W
  kbox : W.heap[bk]? = some (.cells #[.int .i64 k] 72 (0, 0))
  box : ∃ v, W.heap[bx]? = some (.cells #[v] 23 (0, 0)) ∧ W.ownsRow w0.heap.size 24 1 v (kpL k (pre.map Mp.v)).length ((kpL k (pre.map Mp.v)).map (Value.int .u64))
theorem Ap.own {w0 W W' : World} {bk bx : Nat} {k : Int} {pre : List Mp} {row : Option Nat} (h : Ap w0 bk bx k pre W) (hg : W.grownBy W' row) (hr : ∀ r, row = some r → w0.heap.size ≤ r ∧ ∃ o : Obj, W.heap[r]? = some o ∧ o.isCells = false) : Ap w0 bk bx k pre W' := by
  obtain ⟨v, hX, hO⟩ := h.box
  have ne : ∀ g xs t, W.heap[g]? = some (.cells xs t (0, 0)) → some g ≠ row := fun g xs t h e => by
    obtain ⟨_, o, ho, hc⟩ := hr g e.symm
    exact notB h ho hc
  exact ⟨h.bl.grown hg h.bl.size (fun r e => (hr r e).1), (hg.block bk (Array.getElem?_eq_some_iff.1 h.kbox).1 (ne _ _ _ h.kbox)).trans h.kbox, v, (hg.block bx (Array.getElem?_eq_some_iff.1 hX).1 (ne _ _ _ hX)).trans hX,
    ownU_kept hO (fun q cur _ _ e => (hg.block q (Array.getElem?_eq_some_iff.1 e).1 (ne _ _ _ e)).trans e)⟩
theorem ld72 {w : World} {ad : Addr} {v : Value} (h : w.cell? ad = some v) : (loadVar 72 ad).run Try.prog w = .ok v w := by
  have ha : ∀ w, (isAgg 72).run Try.prog w = .ok false w := fun w => by kernel_rfl
  simp [loadVar, ha, go_sem, h]
theorem ld23 {w : World} {ad : Addr} {v : Value} (h : w.cell? ad = some v) : (loadVar 23 ad).run Try.prog w = .ok v w := by
  have ha : ∀ w, (isAgg 23).run Try.prog w = .ok false w := fun w => by kernel_rfl
  simp [loadVar, ha, go_sem, h]
theorem range_kp {k : Int} {ms : List Mp} : ∀ x ∈ kpL k (ms.map Mp.v), 0 ≤ x ∧ x < 18446744073709551616 := fun x hx => by
  obtain ⟨p, hp, rfl⟩ := List.mem_map.1 hx
  obtain ⟨q, hq, rfl⟩ := List.mem_map.1 (List.mem_filter.1 hp).1
  exact q.h.2
set_option maxHeartbeats 4000000 in
set_option maxRecDepth 100000 in
theorem kept_in (k : Int) (hk : k = 1 ∨ k = 4 ∨ k = 7) (n : Nat) (hn : 3 ≤ n) (w : World) (a b : Option Addr) (na nb ca cb : Nat) (la lb : List Int) (Ha : HasU w a na ca la) (Hb : HasU w b nb cb lb) (hna : na ≤ 1000000000) (hnb : nb ≤ 1000000000) :
    CallsIn Fence.wide n Try.prog 48 #[.slice a na ca, .slice b nb cb, .int .i64 k] w (RetU w (kp k la lb)) := by
  obtain ⟨i0, hi, hz0, hz1, hz2⟩ := info_parts info24
  obtain ⟨wA, hwA⟩ : ∃ x, (w.alloc (.cells #[.int .i64 k] 72)).alloc (.cells #[.slice none 0 0] 23) = x := ⟨_, rfl⟩
  have e1 : wA.heap[w.heap.size]? = some (.cells #[.int .i64 k] 72 (0, 0)) := by rw [← hwA]; exact (Below.heap_alloc _ _ _ (by simp)).trans (heap_alloc_new w _)
  have e2 : wA.heap[w.heap.size + 1]? = some (.cells #[.slice none 0 0] 23 (0, 0)) := by
    rw [← hwA]
    have := heap_alloc_new (w.alloc (.cells #[.int .i64 k] 72)) (.cells #[.slice none 0 0] 23)
    rw [show (w.alloc (.cells #[.int .i64 k] 72)).heap.size = w.heap.size + 1 by simp] at this
    exact this
  have BA : Below w.heap.size w wA := by rw [← hwA]; exact ((Below.refl _ w).alloc (Nat.le_refl _) _).alloc (by simp) _
  have MA := hide (merged_any wA a b na nb ca cb)
  have hlen := mg_len la lb
  have hla := Ha.hlen
  have hlb := Hb.hlen
  refine callsIn_of_wp_marks Try.func48 rfl trivial ?_ rfl
  simp only [Try.ntmps48, List.size_toArray, List.length_cons, List.length_nil, Nat.reduceAdd, Nat.reduceSub, Array.replicate_succ, Array.replicate_zero, List.push_toArray, List.append_toArray, List.nil_append, List.cons_append]
  replace hwA := hide hwA
  gi_wp2_with fail
  rw [hwA.out]
  refine ⟨trivial, fun h => (by cases h), (callsIn_wide.2 MA.out).mono ?_⟩
  rintro e w1 ⟨g, g', rfl, hg, hg', B1, hge, hge'⟩
  gi_wp2_with fail
  have hsA : wA.heap.size = w.heap.size + 2 := by rw [← hwA.out]; simp
  have hs1 := B1.size
  have A1 : Ap w w.heap.size (w.heap.size + 1) k [] w1 := ⟨BA.trans (B1.mono BA.size), (B1.block _ (by omega)).trans e1, _, (B1.block _ (by omega)).trans e2, ⟨rfl, .inl ⟨rfl, rfl⟩⟩⟩
  have hval := merged_stops w a b na nb ca cb la lb Ha Hb hna hnb (n - 1) g g' w1 A1.bl hg hg'
  clear MA
  generalize hM : mg la lb = M at *
  replace hM := hide hM
  refine wpIn_rangeFunc_ownG rfl (by omega) (gf := 67) (lb := #[.pointer (some ⟨g, 0, none⟩), .pointer (some ⟨g', 0, none⟩)]) rfl trivial (enters_of Try.func67 (by kernel_rfl) rfl)
    hval (fun h k => h.trans k) (fun W l o o' hl ho _ _ => ⟨by simp [World.putObj], fun q hq => World.putObj_heap_other (by omega)⟩) (Below.refl _ _) (fun _ => rfl)
    (fun pre W => Ap w w.heap.size (w.heap.size + 1) k pre W)
    (fun _ _ _ => False)
    (fun pre W W' row hs hg hr => hs.own hg (fun r e => ⟨by have := (hr r e).1; omega, (hr r e).2⟩))
    (fun _ _ _ _ _ hs _ _ => hs)
    A1
    (fun x => { tmps := #[.slice a na ca, .slice b nb cb, .int .i64 k, undef, undef, .pointer (some ⟨w.heap.size, 0, none⟩), .slice none 0 0, .pointer (some ⟨w.heap.size + 1, 0, none⟩), .int .u64 x.n, .int .i64 x.p, .slice a na ca, .slice b nb cb, .func (.func 67) #[] #[.pointer (some ⟨g, 0, none⟩), .pointer (some ⟨g', 0, none⟩)], .int .u64 x.n, .int .i64 x.p, undef, undef, undef, undef, undef, undef, undef, undef, undef], defers := [] }) ?assign ?body ?done ?stop
  case assign =>
    intro l x W K hK
    simp only [encM]
    gi_wp2
    exact hK
  case body =>
    rintro l pre x W hA hlt
    obtain ⟨v, hX, hO⟩ := hA.box
    have c0 := cell_row hX 0 (v := v) rfl
    have c1 := cell_row hA.kbox 0 (v := .int .i64 k) rfl
    have hb := want_bits hk x.h.1
    have hXl := (Array.getElem?_eq_some_iff.1 hX).1
    have hkl := (Array.getElem?_eq_some_iff.1 hA.kbox).1
    have hsz : w.heap.size ≤ W.heap.size := hA.bl.size
    have hsn := kpL_snoc k (pre.map Mp.v) x.v
    have hlk : (kpL k (pre.map Mp.v)).length ≤ 2000000000 := by
      have h1 := kpL_len k (pre.map Mp.v)
      rw [List.length_map] at h1
      omega
    have hmp : (pre ++ [x]).map Mp.v = pre.map Mp.v ++ [x.v] := by simp
    cases hwb : wantB k x.p with
    | false =>
      rw [hwb] at hb
      have hA' : Hid (Ap w w.heap.size (w.heap.size + 1) k (pre ++ [x]) W) := by
        refine ⟨hA.bl, hA.kbox, v, hX, ?_⟩
        rw [hmp, hsn, show (x.v).2 = x.p from rfl, hwb]
        simpa using hO
      replace hA := hide hA
      replace hX := hide hX
      replace hO := hide hO
      replace hsn := hide hsn
      replace hmp := hide hmp
      gi_wp2_with fail
      exact ⟨KeepsFrom.refl _ _, KB.refl _ _, hA'.out⟩
    | true =>
      rw [hwb] at hb
      rw [show (x.v).2 = x.p from rfl, hwb, if_pos rfl, show (x.v).1 = x.n from rfl] at hsn
      have hOa : Hid ((W.alloc (.cells #[.int .u64 x.n] 24)).ownsRow w.heap.size 24 1 v (kpL k (pre.map Mp.v)).length ((kpL k (pre.map Mp.v)).map (Value.int .u64))) := hO.alloc (.cells #[.int .u64 x.n] 24)
      have hnv : Hid (¬ v.ownBlock = some (w.heap.size + 1)) := fun e => by
        obtain ⟨cur, hc⟩ := ownU_typ hO e
        rw [hX] at hc
        cases hc
      have hnk : Hid (¬ v.ownBlock = some w.heap.size) := fun e => by
        obtain ⟨cur, hc⟩ := ownU_typ hO e
        rw [hA.kbox] at hc
        cases hc
      have hge : Hid (∀ q, v.ownBlock = some q → w.heap.size ≤ q ∧ ∃ cur, W.heap[q]? = some (.cells cur 24 (0, 0))) := fun q e => ⟨(hO.lt q e).1, ownU_typ hO e⟩
      have hkb := hide hA.kbox
      have hbl := hide hA.bl
      generalize hpl : (kpL k (pre.map Mp.v)).length = m at *
      replace hpl := hide hpl
      replace hA := hide hA
      replace hO := hide hO
      replace hsn := hide hsn
      replace hmp := hide hmp
      have hXh := hide hX
      gi_wp2_with (first
        | (gi_at_builtin; refine wpListIn_append_own _ rfl _ _ 23 rfl w.heap.size 24 i0 (.int .u64 0) 1 8 Try.underlying23 hi hz0 hz1 hz2 rfl (by decide) _ _ _ rfl hOa.out ⟨W.heap.size, 0, none⟩ 1 1 [.int .u64 x.n] rfl rfl (cell_one_new _ _ _) (by simp [Value.oneCell']) (by unfold maxLen; omega) (by omega) (by simp; omega) ?_
           intro v' w3 hown' hg3 hnil3
           have bA : ∀ q, q < W.heap.size → ¬ v.ownBlock = some q → w3.heap[q]? = W.heap[q]? := fun q hq hn => (hg3.block q (by simp; omega) (fun e => hn e.symm)).trans (Below.heap_alloc _ _ _ hq)
           have bO : Hid (w3.os = W.os ∧ w3.tape = W.tape ∧ w3.output = W.output) := ⟨hg3.os, hg3.tape, hg3.output⟩
           have hs3 : W.heap.size ≤ w3.heap.size := by have := hg3.size; simp at this; omega
           have X3 : w3.heap[w.heap.size + 1]? = some (.cells #[v] 23 (0, 0)) := (bA _ hXl hnv.out).trans hXh.out
           have c3 := cell_row X3 0 (v := v) rfl
           have f3 := frozen_of_row w3 (w.heap.size + 1) 0 _ 23 X3
           obtain ⟨a', n', cap', rfl⟩ : ∃ a' n' cap', v' = .slice a' n' cap' := (by rcases hown'.2 with ⟨rfl, _⟩ | ⟨g, cap, cur, rfl, _⟩; exact ⟨_, _, _, rfl⟩; exact ⟨_, _, _, rfl⟩)
           replace bA := hide bA
           replace X3 := hide X3
           replace hown' := hide hown'
           clear hg3 hnil3))
      have ot : ∀ q, q ≠ w.heap.size + 1 → (w3.setCell ⟨w.heap.size + 1, 0, none⟩ (.slice a' n' cap')).heap[q]? = w3.heap[q]? := fun q hq => Below.heap_setCell w3 ⟨w.heap.size + 1, 0, none⟩ _ q hq
      have hall : ∀ q, q < W.heap.size → ¬ v.ownBlock = some q → q ≠ w.heap.size + 1 → (w3.setCell ⟨w.heap.size + 1, 0, none⟩ (.slice a' n' cap')).heap[q]? = W.heap[q]? := fun q h1 h2 h3 => (ot q h3).trans (bA.out q h1 h2)
      have hss : W.heap.size ≤ (w3.setCell ⟨w.heap.size + 1, 0, none⟩ (.slice a' n' cap')).heap.size := by simpa [World.setCell] using hs3
      refine ⟨⟨hss, fun q o hq hqo hno => ?_⟩, ⟨hss, fun q hq => ?_⟩, ?_⟩
      · rw [hall q (Array.getElem?_eq_some_iff.1 hqo).1 (fun e => ?_) (fun e => ?_)]
        · exact hqo
        · obtain ⟨_, cur, hc⟩ := hge.out q e
          exact notB hc hqo hno
        · subst e; exact notB hXh.out hqo hno
      · exact hall q (by omega) (fun e => by have := (hge.out q e).1; omega) (by omega)
      · refine ⟨⟨bO.out.1.trans hbl.out.os, bO.out.2.1.trans hbl.out.tape, bO.out.2.2.trans hbl.out.output, by omega, fun q hq => ?_⟩, ?_, _, heap_setCell_same w3 (w.heap.size + 1) 0 _ 23 _ X3.out, ?_⟩
        · rw [hall q (by omega) (fun e => by have := (hge.out q e).1; omega) (by omega)]
          exact hbl.out.block q hq
        · rw [hall w.heap.size hkl hnk.out (by omega)]
          exact hkb.out
        · rw [hmp.out, hsn.out, List.length_append, List.length_singleton, hpl.out, List.map_append]
          refine ownU_kept hown'.out (fun q cur hq e1 e2 => (ot q (fun e => ?_)).trans e2)
          subst e
          rw [X3.out] at e2
          cases e2
  case done =>
    rintro D5 ys W hD hS hA hK
    obtain ⟨v, hX, hO⟩ := hA.box
    have c0 := cell_row hX 0 (v := v) rfl
    have hr : Hid (kpL k (ys.map Mp.v) = kp k la lb) := by show _ = _; rw [hS]; unfold kp; rw [hM.out]
    have A9 : Hid (Ap w w.heap.size (w.heap.size + 1) k ys (W.putObj D5 (.deferred none))) := hA.own (grownBy_putObj' W D5 _) (fun r e => by cases e; exact ⟨by omega, _, hK, rfl⟩)
    have hU : Hid (∃ a' c', v = .slice a' (kp k la lb).length c' ∧ HasU (W.putObj D5 (.deferred none)) a' (kp k la lb).length c' (kp k la lb) ∧ ∀ q, v.ownBlock = some q → w.heap.size ≤ q) := by
      obtain ⟨v2, hX2, hO2⟩ := A9.out.box
      have : v2 = v := by
        have h3 : (W.putObj D5 (.deferred none)).heap[w.heap.size + 1]? = W.heap[w.heap.size + 1]? := World.putObj_heap_other (by omega)
        have h2 := h3.symm.trans hX2
        rw [hX] at h2
        cases h2
        rfl
      subst this
      rw [hr.out] at hO2
      obtain ⟨a', c', e1, e2⟩ := hasU_of_owns hO2 (by rw [← hr.out]; exact range_kp)
      exact ⟨a', c', e1, e2, fun q hq => (hO2.lt q hq).1⟩
    obtain ⟨a', c', rfl, hU1, hU2⟩ := hU.out
    replace hO := hide hO
    replace hX := hide hX
    gi_wp2_with fail
    refine ⟨by simp, .inl ⟨_, _, rfl, run_takeDeferred hK, ?_⟩⟩
    exact ⟨_, results_tmp rfl _ _ _, _, _, _, rfl, hU1, A9.out.bl, hU2⟩
  case stop =>
    rintro D5 c pre W _ _ hh _
    exact hh.elim
set_option maxHeartbeats 400000 in
theorem kept_any (k : Int) (hk : k = 1 ∨ k = 4 ∨ k = 7) (w : World) (a b : Option Addr) (na nb ca cb : Nat) (la lb : List Int) (Ha : HasU w a na ca la) (Hb : HasU w b nb cb lb) (hna : na ≤ 1000000000) (hnb : nb ≤ 1000000000) :
    Calls Try.prog 48 #[.slice a na ca, .slice b nb cb, .int .i64 k] w (RetU w (kp k la lb)) := callsIn_wide.1 (kept_in k hk 5 (by omega) w a b na nb ca cb la lb Ha Hb hna hnb)
end Go.Proofs.Ythkfbdcocnhebaa
