/-
  Samples in memory; rows of samples of one's own, and append to them; SameSamples.
-/
import Derived.Test.YtmjjedbdedemcaaGreatDoorA
import Derived.Laws.StructEq
import Derived.Laws.MakeOwn
namespace Go.Proofs.YtmjjedbdedemcaaGreatDoor
open Go.RowKit
set_option linter.unusedVariables false
set_option linter.unusedSimpArgs false

/-- A sample: its time and its value. -/
abbrev Smp := Int × Nat
def noSmp : Smp := (0, 0)
/-- In the world w the slice (a, len, cap) has the samples L. -/
structure HasS (w : World) (a : Option Addr) (len cap : Nat) (L : List Smp) : Prop where
  hlen : L.length = len
  le : len ≤ cap
  capb : cap ≤ maxLen
  nil : a = none → cap = 0
  cells : 0 < len → ∃ b off, a = some ⟨b, off, none⟩ ∧ b < w.heap.size ∧ ∀ i, i < len → w.cell? ⟨b, off + i * 2, none⟩ = some (.int .i64 (L.getD i noSmp).1) ∧ w.cell? ⟨b, off + i * 2 + 1, none⟩ = some (.int .u64 ((L.getD i noSmp).2 : Int))
  vb : ∀ s ∈ L, s.2 < 18446744073709551616
theorem HasS.kept {w w' : World} {a : Option Addr} {len cap : Nat} {L : List Smp} {B : Nat} (h : HasS w a len cap L) (hb : Below B w w') (hB : w.heap.size ≤ B) : HasS w' a len cap L := by
  refine ⟨h.hlen, h.le, h.capb, h.nil, fun hp => ?_, h.vb⟩
  obtain ⟨b, off, e1, e2, e3⟩ := h.cells hp
  refine ⟨b, off, e1, Nat.lt_of_lt_of_le e2 hb.size, fun i hi => ?_⟩
  exact ⟨(hb.cell (p := ⟨b, off + i * 2, none⟩) (Nat.lt_of_lt_of_le e2 hB)).trans (e3 i hi).1, (hb.cell (p := ⟨b, off + i * 2 + 1, none⟩) (Nat.lt_of_lt_of_le e2 hB)).trans (e3 i hi).2⟩
theorem hasS_nil (w : World) : HasS w none 0 0 [] := ⟨rfl, Nat.le_refl _, Nat.zero_le _, fun _ => rfl, fun h => by omega, fun s hs => by cases hs⟩
theorem vb_getD {L : List Smp} (h : ∀ s ∈ L, s.2 < 18446744073709551616) (i : Nat) : (L.getD i noSmp).2 < 18446744073709551616 := by
  rcases Nat.lt_or_ge i L.length with hi | hi
  · simp only [List.getD, List.getElem?_eq_getElem hi, Option.getD_some]; exact h _ (List.getElem_mem hi)
  · simp [List.getD, List.getElem?_eq_none hi, noSmp]
theorem heldS : Tryz.prog.stoodInHeld 33 = false := by kernel_rfl
theorem underS : Tryz.prog.underlying 33 = some (.struct (Tryz.prog.fieldsOf 33)) := by kernel_rfl
theorem guardS : Tryz.prog.eqGuardType Tryz.prog.depth 33 = false := by kernel_rfl
theorem run_eqlS (x0 y0 : Int) (x1 y1 : Int) (w : World) : (binOp .eql 33 (.agg #[.int .i64 x0, .int .u64 x1]) (.agg #[.int .i64 y0, .int .u64 y1])).run Tryz.prog w = .ok (.bool (decide (x0 = y0 ∧ x1 = y1))) w := by
  rw [run_eql_struct, run_equalIn_agg w 9999 33 _ _ underS heldS]
  have hs : ∀ w, (sizeOf 3).run Tryz.prog w = .ok 1 w := fun w => by kernel_rfl
  have hs2 : ∀ w, (sizeOf 31).run Tryz.prog w = .ok 1 w := fun w => by kernel_rfl
  have hu := Tryz.underlying3
  have hu2 := Tryz.underlying31
  rw [show (Tryz.prog.fieldsOf 33).toList = _ from rfl]
  simp [Op.eqFields, go_sem]
  by_cases h0 : x0 = y0 <;> by_cases h1 : x1 = y1 <;> simp [h0, h1]
theorem run_neqS (x0 y0 : Int) (x1 y1 : Int) (w : World) : (binOp .neq 33 (.agg #[.int .i64 x0, .int .u64 x1]) (.agg #[.int .i64 y0, .int .u64 y1])).run Tryz.prog w = .ok (.bool (!decide (x0 = y0 ∧ x1 = y1))) w := by
  rw [run_neq_struct, run_equalIn_agg w 9999 33 _ _ underS heldS]
  have hs : ∀ w, (sizeOf 3).run Tryz.prog w = .ok 1 w := fun w => by kernel_rfl
  have hs2 : ∀ w, (sizeOf 31).run Tryz.prog w = .ok 1 w := fun w => by kernel_rfl
  have hu := Tryz.underlying3
  have hu2 := Tryz.underlying31
  rw [show (Tryz.prog.fieldsOf 33).toList = _ from rfl]
  simp [Op.eqFields, go_sem]
  by_cases h0 : x0 = y0 <;> by_cases h1 : x1 = y1 <;> simp [h0, h1]
theorem same_stepS {ls ms : List Smp} {k : Nat} (h1 : k < ls.length) (h2 : k < ms.length) (h : ls.take k = ms.take k) (e : ls.getD k noSmp = ms.getD k noSmp) : ls.take (k + 1) = ms.take (k + 1) := by
  rw [List.take_add_one, List.take_add_one, h, List.getElem?_eq_getElem h1, List.getElem?_eq_getElem h2]
  have : ls[k] = ms[k] := by simpa [List.getD, List.getElem?_eq_getElem h1, List.getElem?_eq_getElem h2] using e
  rw [this]
theorem take_succS {L : List Smp} {k : Nat} (hk : k < L.length) : L.take (k + 1) = L.take k ++ [L.getD k noSmp] := by
  rw [List.take_add_one, List.getElem?_eq_getElem hk]
  simp [List.getD, List.getElem?_eq_getElem hk]

set_option maxHeartbeats 1000000 in
theorem sameS_any (w : World) (a a' : Option Addr) (len len' cap cap' : Nat) (L M : List Smp) (h : HasS w a len cap L) (h' : HasS w a' len' cap' M) :
    Calls Tryz.prog 17 #[.slice a len cap, .slice a' len' cap'] w fun e w' => e = .returned (.bool (decide (L = M))) ∧ ∃ m, w' = w.drewN m := by
  have hl := h.hlen
  have hl' := h'.hlen
  have hcap := h.capb
  have hle := h.le
  unfold maxLen at hcap
  by_cases hll : len = len'
  · subst hll
    have hc := hide h.cells
    have hc' := hide h'.cells
    clear h h'
    go_enter Tryz.func17, Tryz.ntmps17
    go_wp2
    go_loopw [5] (fun i wr => ∃ k : Nat, k ≤ len ∧ i = .int .i64 k ∧ Hid (∃ m, wr = w.drewN m) ∧ Hid (L.take k = M.take k)) (fun i _ => len - (intOf i).toNat)
    case atStart => exact ⟨0, Nat.zero_le _, rfl, (⟨0, rfl⟩ : ∃ m, w = w.drewN m), (rfl : L.take 0 = M.take 0)⟩
    case round =>
      obtain ⟨k, hk, rfl, hwr, ht⟩ := hrel
      by_cases hkl : k < len
      · obtain ⟨b, off, rfl, _, hcl⟩ := hc.out (by omega)
        obtain ⟨b', off', rfl, _, hcl'⟩ := hc'.out (by omega)
        have i1 : (k : Int) < len := by omega
        have hhp : wr.heap = w.heap := by obtain ⟨m, e⟩ := hwr.out; rw [e]; rfl
        have c0 : wr.cell? ⟨b, off + k * 2, none⟩ = some (.int .i64 (L.getD k noSmp).1) := (World.cell?_of_block (by rw [hhp])).trans (hcl k hkl).1
        have c1 : wr.cell? ⟨b, off + k * 2 + 1, none⟩ = some (.int .u64 ((L.getD k noSmp).2 : Int)) := (World.cell?_of_block (by rw [hhp])).trans (hcl k hkl).2
        have d0 : wr.cell? ⟨b', off' + k * 2, none⟩ = some (.int .i64 (M.getD k noSmp).1) := (World.cell?_of_block (by rw [hhp])).trans (hcl' k hkl).1
        have d1 : wr.cell? ⟨b', off' + k * 2 + 1, none⟩ = some (.int .u64 ((M.getD k noSmp).2 : Int)) := (World.cell?_of_block (by rw [hhp])).trans (hcl' k hkl).2
        have hst := hide (fun e => same_stepS (ls := L) (ms := M) (k := k) (by omega) (by omega) ht.out e)
        have hne := hide (fun (e : L = M) => congrArg (fun l => l.getD k noSmp) e)
        generalize L.getD k noSmp = x at c0 c1 hst hne
        generalize M.getD k noSmp = y at d0 d1 hst hne
        obtain ⟨x0, x1⟩ := x
        obtain ⟨y0, y1⟩ := y
        replace hhp := hide hhp
        clear hcl hcl'
        simp only at c0 c1 d0 d1
        obtain ⟨z1, hz1⟩ : ∃ z : Int, (x1 : Int) = z := ⟨_, rfl⟩
        obtain ⟨z2, hz2⟩ : ∃ z : Int, (y1 : Int) = z := ⟨_, rfl⟩
        rw [hz1] at c1
        rw [hz2] at d1
        have kg := guardS
        by_cases he : ((x0, x1) : Smp) = (y0, y1)
        · have kn : ∀ w, (binOp .neq 33 (.agg #[.int .i64 x0, .int .u64 z1]) (.agg #[.int .i64 y0, .int .u64 z2])).run Tryz.prog w = .ok (.bool false) w := fun w => by
            rw [run_neqS]; simp only [Prod.mk.injEq] at he; rw [decide_eq_true ⟨he.1, by omega⟩]; rfl
          have hnew : Hid (L.take (k + 1) = M.take (k + 1)) := hst.out he
          clear he hst hne hz1 hz2
          go_wp2_with fail
          go_quiet (fail)
          go_wp2_with fail
          go_roundw
          case rel => exact ⟨k + 1, by omega, by go_num, (by obtain ⟨m, e⟩ := hwr.out; exact ⟨m + nq, by rw [e, World.drewN_drewN]⟩ : ∃ m, wr.drewN nq = w.drewN m), hnew⟩
          case measure => simp [intOf]; omega
        · have kn : ∀ w, (binOp .neq 33 (.agg #[.int .i64 x0, .int .u64 z1]) (.agg #[.int .i64 y0, .int .u64 z2])).run Tryz.prog w = .ok (.bool true) w := fun w => by
            rw [run_neqS, decide_eq_false (fun e => he (by simp only [Prod.mk.injEq]; exact ⟨e.1, by omega⟩))]; rfl
          have hne2 : Hid (L ≠ M) := fun e => he (hne.out e)
          clear he hst hne hz1 hz2
          go_wp2_with fail
          go_quiet (fail)
          go_wp2_with fail
          go_ret
          exact ⟨by rw [show decide (L = M) = false by simpa using hne2.out]; rfl, by obtain ⟨m, e⟩ := hwr.out; exact ⟨m + nq, by rw [e, World.drewN_drewN]⟩⟩
      · obtain rfl : k = len := by omega
        have he : Hid (L = M) := by
          have := ht.out
          rwa [List.take_of_length_le (by omega), List.take_of_length_le (by omega)] at this
        go_wp2
        go_ret
        exact ⟨by rw [show decide (L = M) = true by simpa using he.out]; rfl, hwr.out⟩
  · have hne : Hid (L ≠ M) := fun e => hll (by rw [← hl, ← hl', e])
    have hll' : ¬ ((len : Int) = (len' : Int)) := by omega
    clear h h'
    go_enter Tryz.func17, Tryz.ntmps17
    go_wp2
    go_ret
    exact ⟨by rw [show decide (L = M) = false by simpa using hne.out]; rfl, 0, rfl⟩

/-- The cells of samples. -/
def flat : List Smp → List Value
  | [] => []
  | p :: ps => .int .i64 p.1 :: .int .u64 (p.2 : Int) :: flat ps
theorem flat_len (L : List Smp) : (flat L).length = L.length * 2 := by
  induction L with
  | nil => rfl
  | cons p L ih => simp only [flat, List.length_cons, ih]; omega
theorem flat_app (L M : List Smp) : flat (L ++ M) = flat L ++ flat M := by
  induction L with
  | nil => rfl
  | cons p L ih => simp [flat, ih]
theorem flat_get (L : List Smp) : ∀ i, i < L.length → (flat L)[i * 2]? = some (.int .i64 (L.getD i noSmp).1) ∧ (flat L)[i * 2 + 1]? = some (.int .u64 ((L.getD i noSmp).2 : Int)) := by
  induction L with
  | nil => intro i hi; simp at hi
  | cons p L ih =>
    intro i hi
    cases i with
    | zero => simp [flat]
    | succ i =>
      have := ih i (by simpa using hi)
      rw [show (i + 1) * 2 = i * 2 + 1 + 1 by omega]
      simpa [flat] using this
theorem flat_one (L : List Smp) : ∀ u ∈ flat L, u.oneCell' = true := by
  induction L with
  | nil => intro u hu; cases hu
  | cons p L ih =>
    intro u hu
    simp only [flat, List.mem_cons] at hu
    rcases hu with rfl | rfl | hu
    · rfl
    · rfl
    · exact ih u hu
theorem slice_of_owns {W : World} {base : Nat} {e : TypeId} {size : Nat} {v : Value} {k : Nat} {xs : List Value} (h : W.ownsRow base e size v k xs) : ∃ a cap, v = .slice a k cap := by
  rcases h.2 with ⟨rfl, rfl⟩ | ⟨g, cap, cur, rfl, _⟩
  · exact ⟨_, _, rfl⟩
  · exact ⟨_, _, rfl⟩
theorem hasS_of_owns {w : World} {base : Nat} {v : Value} {n : Nat} {L : List Smp} (h : w.ownsRow base 33 2 v n (flat L)) (hv : ∀ s ∈ L, s.2 < 18446744073709551616) : ∃ a cap, v = .slice a n cap ∧ HasS w a n cap L := by
  have hl : L.length = n := by have := h.1; rw [flat_len] at this; omega
  rcases h.2 with ⟨rfl, rfl⟩ | ⟨g, cap, cur, rfl, hbg, hg, hnc, hcm, hcs, htake⟩
  · obtain rfl : L = [] := List.eq_nil_of_length_eq_zero hl
    exact ⟨none, 0, rfl, hasS_nil w⟩
  · refine ⟨some ⟨g, 0, none⟩, cap, rfl, hl, hnc, hcm, (fun e => by cases e), fun hp => ⟨g, 0, rfl, (Array.getElem?_eq_some_iff.1 hg).1, fun i hi => ?_⟩, hv⟩
    obtain ⟨f1, f2⟩ := flat_get L i (by omega)
    have c1 := h.cells (g := g) rfl _ _ f1
    have c2 := h.cells (g := g) rfl _ _ f2
    rw [add_plain] at c1 c2
    exact ⟨c1, by rw [show 0 + i * 2 + 1 = 0 + (i * 2 + 1) by omega]; exact c2⟩
theorem infoS : (Tryz.prog.info? 33).map (fun i => (i.zero, i.size, i.bytes)) = some (some (.agg #[.int .i64 0, .int .u64 0]), 2, 16) := by kernel_rfl
theorem info_partsS : ∃ i, Tryz.prog.info? 33 = some i ∧ i.zero = some (.agg #[.int .i64 0, .int .u64 0]) ∧ i.size = 2 ∧ i.bytes = 16 := by
  have h := infoS
  cases hi : Tryz.prog.info? 33 with
  | none => rw [hi] at h; cases h
  | some i =>
    rw [hi] at h
    simp only [Option.map_some, Option.some.injEq, Prod.mk.injEq] at h
    exact ⟨i, rfl, h.1, h.2.1, h.2.2⟩
section
variable {w : World} {ops : Array Oper} {rest : List Oper} {o : Oper} {a : Act} {Q : Exit → Act → World → Prop} {K : Act → World → Prop} {E : Prop}
/-- append of samples to a row of one's own. -/
theorem run_appS (w : World) (ty : TypeId) (base : Nat) (v : Value) (k : Nat) (L : List Smp) (hown : w.ownsRow base 33 2 v k (flat L))
    (ax : Option Addr) (m cap : Nat) (M : List Smp) (hM : HasS w ax m cap M) (hb : k + m ≤ 1099511627776) (hbase : base ≤ w.heap.size) :
    ∃ v' w', (Builtin.append_ #[22, 22] ty #[v, .slice ax m cap]).run Tryz.prog w = .ok v' w' ∧ w'.ownsRow base 33 2 v' (k + m) (flat (L ++ M)) ∧ w.grownBy w' v.ownBlock := by
  obtain ⟨i0, hi, hz0, hz1, hz2⟩ := info_partsS
  have hl := hM.hlen
  cases ax with
  | none =>
    have hc0 := hM.nil rfl
    have hle := hM.le
    subst hc0
    obtain rfl : m = 0 := by omega
    obtain rfl : M = [] := List.eq_nil_of_length_eq_zero hl
    exact ⟨v, w, run_append_owned_none (P := Tryz.prog) (w := w) base 22 ty 33 i0 2 Tryz.underlying22 hi v k (flat L) hown, by simpa using hown, World.grownBy.refl w _⟩
  | some ad =>
    have hc : ∀ i, i < m → ∃ b off, ad = ⟨b, off, none⟩ ∧ w.cell? ⟨b, off + i * 2, none⟩ = some (.int .i64 (M.getD i noSmp).1) ∧ w.cell? ⟨b, off + i * 2 + 1, none⟩ = some (.int .u64 ((M.getD i noSmp).2 : Int)) := fun i hi => by
      obtain ⟨b, off, e, _, h⟩ := hM.cells (by omega)
      cases e
      exact ⟨b, off, rfl, h i hi⟩
    obtain ⟨v', w', hrun, r1, r2, r3⟩ := run_append_own (P := Tryz.prog) w base 22 ty 33 i0 (.agg #[.int .i64 0, .int .u64 0]) 2 16 Tryz.underlying22 hi hz0 hz1 hz2 rfl (by decide) v k (flat L) hown ad m cap (flat M) (by rw [flat_len, hl])
      (fun j u hj => by
        have hjl : j < (flat M).length := (List.getElem?_eq_some_iff.1 hj).1
        rw [flat_len] at hjl
        have hg := flat_get M (j / 2) (by omega)
        obtain ⟨b, off, rfl, hcc⟩ := hc (j / 2) (by omega)
        rw [add_plain]
        rcases Nat.mod_two_eq_zero_or_one j with e | e
        · rw [show j / 2 * 2 = j by omega] at hg hcc
          rw [hg.1] at hj
          rw [hcc.1, hj]
        · rw [show j / 2 * 2 + 1 = j by omega] at hg
          rw [show off + j / 2 * 2 + 1 = off + j by omega] at hcc
          rw [hg.2] at hj
          rw [hcc.2, hj]) (flat_one M) (by unfold maxLen; omega) (by omega) hbase
    exact ⟨v', w', hrun, by rw [flat_app]; exact r1, r2⟩
theorem step_appS (hgd : o.guard = none) (s x : Operand) (ho : o.op = .call { callee := .builtin .append, args := #[s, x], argTypes := #[22, 22] })
    (base : Nat) (v : Value) (k : Nat) (L : List Smp) (hs : a.eval s = v) (hown : w.ownsRow base 33 2 v k (flat L))
    (ax : Option Addr) (m cap : Nat) (M : List Smp) (hx : a.eval x = .slice ax m cap) (hM : HasS w ax m cap M) (hb : k + m ≤ 1099511627776) (hbase : base ≤ w.heap.size)
    (h : ∀ v' w', w'.ownsRow base 33 2 v' (k + m) (flat (L ++ M)) → w.grownBy w' v.ownBlock → K (a.put o.dst v') w') :
    if Region.wanted o (yielded ops a.tmps) = true then Oper.wp Tryz.prog o a w K Q else E := by
  have hw : Region.wanted o (yielded ops a.tmps) = true := by simp [Region.wanted, hgd]
  rw [if_pos hw]
  obtain ⟨v', w', hrun, r1, r2⟩ := run_appS w o.type base v k L hown ax m cap M hM hb hbase
  unfold Oper.wp
  simp [execOp, ho, resolve, invoke, builtin, hs, hx, hrun, Result.andThen]
  exact h v' w' r1 r2
theorem wpList_appS (hgd : o.guard = none) (s x : Operand) (ho : o.op = .call { callee := .builtin .append, args := #[s, x], argTypes := #[22, 22] })
    (base : Nat) (v : Value) (k : Nat) (L : List Smp) (hs : a.eval s = v) (hown : w.ownsRow base 33 2 v k (flat L))
    (ax : Option Addr) (m cap : Nat) (M : List Smp) (hx : a.eval x = .slice ax m cap) (hM : HasS w ax m cap M) (hb : k + m ≤ 1099511627776) (hbase : base ≤ w.heap.size)
    (h : ∀ v' w', w'.ownsRow base 33 2 v' (k + m) (flat (L ++ M)) → w.grownBy w' v.ownBlock → wpList Tryz.prog ops Q rest (a.put o.dst v') w') : wpList Tryz.prog ops Q (o :: rest) a w := by
  refine wpList_plain hgd fun K hK' => ?_
  obtain ⟨v', w', hrun, r1, r2⟩ := run_appS w o.type base v k L hown ax m cap M hM hb hbase
  unfold Oper.wp
  simp [execOp, ho, resolve, invoke, builtin, hs, hx, hrun, Result.andThen]
  exact hK' _ _ (h v' w' r1 r2)
theorem wpList_makeS (hg : o.guard = none) (lo co : Operand) (hop : o.op = Op.makeSlice 22 lo co) (c : Nat) (C : Int) (hl : a.eval lo = .int .i64 0) (hc : a.eval co = .int .i64 C) (hC : C = (c : Int)) (hb : c ≤ 1099511627776)
    (h : ∀ w', w'.ownsRow w.heap.size 33 2 (.slice (some ⟨w.heap.size, 0, none⟩) 0 c) 0 (flat []) → Below w.heap.size w w' → w'.heap.size = w.heap.size + 1 →
      wpList Tryz.prog ops Q rest (a.put o.dst (.slice (some ⟨w.heap.size, 0, none⟩) 0 c)) w') :
    wpList Tryz.prog ops Q (o :: rest) a w := by
  obtain ⟨i0, hi, hz0, hz1, hz2⟩ := info_partsS
  refine wpList_plain hg fun K hK' => ?_
  subst hC
  have hrun := run_make (P := Tryz.prog) w 22 33 i0 _ Tryz.underlying22 hi hz0 .i64 .i64 0 c (by omega) (by omega) (by rw [hz2]; omega) (by omega)
  simp only [Int.toNat_natCast, hz1, show (0 : Int).toNat = 0 from rfl] at hrun
  unfold Oper.wp
  simp [execOp, hop, hl, hc, hrun, Result.andThen]
  refine hK' _ _ (h _ ⟨rfl, .inr ⟨w.heap.size, c, _, rfl, Nat.le_refl _, heap_alloc_new w _, Nat.zero_le _, by unfold maxLen; omega, ?_, ?_⟩⟩ ((Below.refl _ _).alloc (Nat.le_refl _) _) (by simp))
  · rw [size_madeCells]
  · simp; rfl
end
theorem hasS_one (w : World) (t : Int) (v : Nat) (hv : v < 18446744073709551616) : HasS (w.alloc (.cells #[.int .i64 t, .int .u64 (v : Int)] 33)) (some ⟨w.heap.size, 0, none⟩) 1 1 [(t, v)] := by
  refine ⟨rfl, Nat.le_refl _, by unfold maxLen; omega, (fun h => by cases h), fun _ => ⟨w.heap.size, 0, rfl, by simp, fun i hi => ?_⟩, fun s hs => by simp at hs; subst hs; exact hv⟩
  obtain rfl : i = 0 := by omega
  exact ⟨by simp [cell_of_row _ _ _ _ _ _ (heap_alloc_new w _)], by simp [cell_of_row _ _ _ _ _ _ (heap_alloc_new w _)]⟩
theorem ownsS_nil (w : World) (n0 : Nat) (h : n0 ≤ w.heap.size) : (w.alloc (.cells #[] 33)).ownsRow n0 33 2 (.slice (some ⟨w.heap.size, 0, none⟩) 0 0) 0 (flat []) :=
  ⟨rfl, .inr ⟨w.heap.size, 0, #[], rfl, h, heap_alloc_new w _, Nat.le_refl _, by unfold maxLen; omega, rfl, rfl⟩⟩
/-- Samples come out, in memory of their own. -/
def Smps (w : World) (L : List Smp) (e : Ending) (w' : World) : Prop := ∃ a cap, e = .returned (.slice a L.length cap) ∧ HasS w' a L.length cap L ∧ Below w.heap.size w w' ∧ w'.ownsRow w.heap.size 33 2 (.slice a L.length cap) L.length (flat L)
end Go.Proofs.YtmjjedbdedemcaaGreatDoor
