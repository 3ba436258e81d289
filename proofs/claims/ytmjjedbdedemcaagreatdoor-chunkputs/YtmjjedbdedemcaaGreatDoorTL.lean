/-
  chunk.unpack.
-/
import Derived.Test.YtmjjedbdedemcaaGreatDoorTK
import Derived.Deep.AppendLies
namespace Go.Proofs.YtmjjedbdedemcaaGreatDoor
open Go.RowKit Go.Shelf
set_option linter.unusedVariables false
set_option linter.unusedSimpArgs false
attribute [local go_sem] Oper.semAt_some

/-- What unpack hands out. -/
def UnpT (B : List Int) (m : Nat) (w : World) (e : Ending) (w' : World) : Prop :=
  ((∃ ss ad cap, upk B m = some ss ∧ e = .returned (.tuple #[.slice ad m cap, .bool true]) ∧ HasS w' ad m cap (ss.map up)) ∨ (upk B m = none ∧ ∃ ad n cap, e = .returned (.tuple #[.slice ad n cap, .bool false]))) ∧ Below w.heap.size w w'

section
variable {F : Fence} {n : Nat} {w : World} {ops : Array Oper} {rest : List Oper} {o : Oper} {a : Act} {Q : Exit → Act → World → Prop}
/-- append of one sample to a row of one's own, in a fence. -/
theorem wpListIn_lies3 (hgd : o.guard = none) (s x : Operand)
    (ho : o.op = .call { callee := .builtin .append, args := #[s, x], argTypes := #[22, 22] }) (base : Nat) (v : Value) (k : Nat) (xs : List Value) (hs : a.eval s = v) (hown : w.ownsRow base 33 2 v k xs)
    (ax : Nat) (t b : Int) (hx : a.eval x = .slice (some ⟨ax, 0, none⟩) 1 1) (hc : w.cell? ⟨ax, 0, none⟩ = some (.int .i64 t)) (hc1 : w.cell? ⟨ax, 1, none⟩ = some (.int .u64 b)) (hb : k + 1 ≤ 1000000) (hbase : base ≤ w.heap.size)
    (h : ∀ g cap w', w'.ownsRow base 33 2 (.slice (some ⟨g, 0, none⟩) (k + 1) cap) (k + 1) (xs ++ [.int .i64 t, .int .u64 b]) → w.grownBy w' v.ownBlock → (v.ownBlock = some g ∨ g = w.heap.size) → wpListIn F n Tryz.prog ops Q rest (a.put o.dst (.slice (some ⟨g, 0, none⟩) (k + 1) cap)) w') :
    wpListIn F n Tryz.prog ops Q (o :: rest) a w := by
  obtain ⟨i0, hi, hz0, hz1, hz2⟩ := info_partsS
  obtain ⟨g, cap, w', hrun, r1, r2, r3, _⟩ := run_append_lies (P := Tryz.prog) w 22 o.type base 33 i0 (.agg #[.int .i64 0, .int .u64 0]) 2 16 Tryz.underlying22 hi hz0 hz1 hz2 rfl (by decide) v k xs hown ⟨ax, 0, none⟩ 1 1 [.int .i64 t, .int .u64 b] rfl (fun j u hj => by
    match j, hj with
    | 0, hj => simp at hj; subst hj; rw [add_plain]; exact hc
    | 1, hj => simp at hj; subst hj; rw [add_plain]; exact hc1
    | j + 2, hj => simp at hj) (fun u hu => by simp at hu; rcases hu with rfl | rfl <;> rfl) (by omega) (by unfold maxLen; omega) (by omega) hbase _ rfl
  refine wpListIn_plain hgd fun K hK' => ?_
  refine ⟨?_, ?_⟩
  · simp [Oper.about, ho, resolve, Target.leads, Sem.run_pure]
  · rw [Oper.semAt_plain F _ _ (by rw [ho]; intro c hc'; cases hc')]
    simp [execOp, ho, resolve, invoke, builtin, hs, hx, hrun, Result.andThen]
    exact hK' _ _ (h g cap w' r1 r2 r3)
theorem wpListIn_makeS (hg : o.guard = none) (lo co : Operand) (hop : o.op = Op.makeSlice 22 lo co) (c : Nat) (C : Int) (hl : a.eval lo = .int .i64 0) (hc : a.eval co = .int .i64 C) (hC : C = (c : Int)) (hb : c ≤ 1099511627776)
    (h : ∀ w', w'.ownsRow w.heap.size 33 2 (.slice (some ⟨w.heap.size, 0, none⟩) 0 c) 0 (flat []) → Below w.heap.size w w' → w'.heap.size = w.heap.size + 1 →
      wpListIn F n Tryz.prog ops Q rest (a.put o.dst (.slice (some ⟨w.heap.size, 0, none⟩) 0 c)) w') :
    wpListIn F n Tryz.prog ops Q (o :: rest) a w := by
  obtain ⟨i0, hi, hz0, hz1, hz2⟩ := info_partsS
  refine wpListIn_plain hg fun K hK' => ?_
  subst hC
  have hrun := run_make (P := Tryz.prog) w 22 33 i0 _ Tryz.underlying22 hi hz0 .i64 .i64 0 c (by omega) (by omega) (by rw [hz2]; omega) (by omega)
  simp only [Int.toNat_natCast, hz1, show (0 : Int).toNat = 0 from rfl] at hrun
  refine ⟨?_, ?_⟩
  · simp [Oper.about, hop]
  · rw [Oper.semAt_plain F _ _ (by rw [hop]; intro c hc'; cases hc')]
    simp [execOp, hop, hl, hc, hrun, Result.andThen]
    refine hK' _ _ (h _ ⟨rfl, .inr ⟨w.heap.size, c, _, rfl, Nat.le_refl _, heap_alloc_new w _, Nat.zero_le _, by unfold maxLen; omega, ?_, ?_⟩⟩ ((Below.refl _ _).alloc (Nat.le_refl _) _) (by simp))
    · rw [size_madeCells]
    · simp; rfl
end

/-- What holds between rounds of unpack: its boxes lie at h, h + 1 and b7, the reader at q, the iterator's state at s. -/
structure RI (w : World) (q s b7 : Nat) (pre : List Gv) (W : World) : Prop where
  all : ∀ x ∈ pre, x.2 = 0
  b4 : Boxed W w.heap.size 22 (.slice none 0 0)
  b5 : Boxed W (w.heap.size + 1) 4 (.bool false)
  row : ∃ vl, Boxed W b7 22 vl ∧ W.ownsRow w.heap.size 33 2 vl pre.length (flat (pre.map (·.1))) ∧ vl.ownBlock ≠ some q ∧ vl.ownBlock ≠ some s
  bel : Below w.heap.size w W
theorem boxed_stays {A B : World} {row : Option Nat} {g : Nat} {t : TypeId} {v : Value} (h : Boxed A g t v) (hg : A.grownBy B row) (hr : ∀ r, row = some r → r ≠ g) : Boxed B g t v := h.kept hg (fun e => hr g e.symm rfl)
theorem RI.grown {w : World} {q s b7 : Nat} {pre : List Gv} {A B : World} {row : Option Nat} (h : RI w q s b7 pre A) (hg : A.grownBy B row) (hq : w.heap.size + 1 < q ∧ q ≠ b7) (hs : w.heap.size + 1 < s ∧ s ≠ b7)
    (hr : ∀ r, row = some r → r = q ∨ r = s ∨ (w.heap.size ≤ r ∧ ∃ o : Obj, A.heap[r]? = some o ∧ o.isCells = false)) : RI w q s b7 pre B := by
  have nb : ∀ {g t v}, Boxed A g t v → g ≠ q → g ≠ s → ∀ r, row = some r → r ≠ g := fun hb h1 h2 r e e' => by
    rcases hr r e with h3 | h3 | ⟨h3, o, ho, hc⟩
    · exact h1 (e' ▸ h3)
    · exact h2 (e' ▸ h3)
    · rw [e', show A.heap[_]? = _ from hb] at ho; cases ho; cases hc
  obtain ⟨vl, h1, h2, h3, h4⟩ := h.row
  refine ⟨h.all, boxed_stays h.b4 hg (nb h.b4 (by omega) (by omega)), boxed_stays h.b5 hg (nb h.b5 (by omega) (by omega)), ⟨vl, boxed_stays h1 hg (nb h1 (fun e => hq.2 e.symm) (fun e => hs.2 e.symm)), h2.kept hg ?_, h3, h4⟩, h.bel.grown hg h.bel.size (fun k e => ?_)⟩
  · rcases h2.2 with ⟨rfl, _⟩ | ⟨g, cap, cur, rfl, _, hgb, _⟩
    · exact .inl rfl
    · refine .inr fun e' => ?_
      have e2 : row = some g := by simpa [Value.ownBlock] using e'.symm
      rcases hr g e2 with h5 | h5 | ⟨_, o, ho, hc⟩
      · exact h3 (by rw [h5]; rfl)
      · exact h4 (by rw [h5]; rfl)
      · rw [hgb] at ho; cases ho; cases hc
  · rcases hr k e with h5 | h5 | ⟨h5, _⟩ <;> omega
theorem flat_snoc (L : List Smp) (s : Smp) : flat (L ++ [s]) = flat L ++ [.int .i64 s.1, .int .u64 (s.2 : Int)] := by rw [flat_app]; rfl
/-- A sample more. -/
theorem RI.more {w : World} {q s b7 : Nat} {pre : List Gv} {W w1 : World} {vl : Value} {g cap : Nat} {t : Int} {x : Nat} (h : RI w q s b7 pre W) (hv : Boxed W b7 22 vl) (ho : W.ownsRow w.heap.size 33 2 vl pre.length (flat (pre.map (·.1)))) (h3 : vl.ownBlock ≠ some q) (h4 : vl.ownBlock ≠ some s)
    (hq : q < W.heap.size) (hs : s < W.heap.size) (hb7 : w.heap.size + 1 < b7) (o1 : w1.ownsRow w.heap.size 33 2 (.slice (some ⟨g, 0, none⟩) (pre.length + 1) cap) (pre.length + 1) (flat (pre.map (·.1)) ++ [.int .i64 t, .int .u64 (x : Int)]))
    (G : (W.alloc (.cells #[.int .i64 t, .int .u64 (x : Int)] 33)).grownBy w1 vl.ownBlock) (hat : vl.ownBlock = some g ∨ g = (W.alloc (.cells #[.int .i64 t, .int .u64 (x : Int)] 33)).heap.size) :
    Boxed w1 b7 22 vl ∧ KeepsOthers W (w1.setCell ⟨b7, 0, none⟩ (.slice (some ⟨g, 0, none⟩) (pre.length + 1) cap)) ∧ KpR w.heap.size W (w1.setCell ⟨b7, 0, none⟩ (.slice (some ⟨g, 0, none⟩) (pre.length + 1) cap)) ∧
      RI w q s b7 (pre ++ [((t, x), 0)]) (w1.setCell ⟨b7, 0, none⟩ (.slice (some ⟨g, 0, none⟩) (pre.length + 1) cap)) := by
  obtain ⟨A1, A2, A3, A4, A5⟩ := Boxed.appended hv (by decide) ho (Nat.le_trans (Nat.le_refl _) h.bel.size) (by omega) o1 G
  have oth : ∀ k cs t' fr, W.heap[k]? = some (Obj.cells cs t' fr) → t' ≠ 33 → k ≠ b7 → (w1.setCell ⟨b7, 0, none⟩ (.slice (some ⟨g, 0, none⟩) (pre.length + 1) cap)).heap[k]? = some (Obj.cells cs t' fr) := fun k cs t' fr hk ht hne => by
    refine (Below.heap_setCell w1 _ _ k hne).trans ?_
    have hlt := (Array.getElem?_eq_some_iff.1 hk).1
    refine (G.block k (by simp; omega) (fun e => ?_)).trans ((Below.heap_alloc W _ k hlt).trans hk)
    rcases ho.2 with ⟨h5, _⟩ | ⟨g', cap', cur, h5, _, hgb, _⟩
    · rw [h5] at e; cases e
    · rw [h5] at e
      have : k = g' := by simpa [Value.ownBlock] using e
      rw [← this, hk] at hgb; cases hgb; exact ht rfl
  have hsz := h.b4.lt
  refine ⟨A1, A4, ⟨A5, fun k cs t' fr hk ht => oth k cs t' fr hk (by rcases ht with rfl | rfl | rfl | rfl <;> decide) (fun e => ?_)⟩, ⟨fun x hx => ?_, oth _ _ _ _ h.b4 (by decide) (by omega), oth _ _ _ _ h.b5 (by decide) (by omega), ⟨_, A2, by simpa [flat_snoc] using A3, ?_, ?_⟩, h.bel.trans A5⟩⟩
  · rw [e, show W.heap[_]? = _ from hv] at hk; cases hk; rcases ht with h | h | h | h <;> cases h
  · rcases List.mem_append.1 hx with h5 | h5
    · exact h.all x h5
    · simp at h5; rw [h5]
  · intro e
    have : g = q := by simpa [Value.ownBlock] using e
    rcases hat with h5 | h5
    · exact h3 (by rw [h5, this])
    · simp at h5; omega
  · intro e
    have : g = s := by simpa [Value.ownBlock] using e
    rcases hat with h5 | h5
    · exact h4 (by rw [h5, this])
    · simp at h5; omega
/-- What holds where a round has returned. -/
def RIx (w : World) (pre : List Gv) (W : World) : Prop := ∃ p x, pre = p ++ [x] ∧ x.2 ≠ 0 ∧ Boxed W w.heap.size 22 (.slice none 0 0) ∧ Boxed W (w.heap.size + 1) 4 (.bool false) ∧ Below w.heap.size w W
theorem RIx.own (w : World) (B : Nat) (hB : w.heap.size ≤ B) : OwnFrom B (RIx w) := by
  rintro pre A A' row ⟨p, x, h0, h1, h2, h3, h4⟩ hg hr
  have nb : ∀ {g t v}, Boxed A g t v → ∀ r, row = some r → r ≠ g := fun hb r e e' => by
    obtain ⟨_, o, ho, hc⟩ := hr r e
    rw [e', show A.heap[_]? = _ from hb] at ho; cases ho; cases hc
  exact ⟨p, x, h0, h1, boxed_stays h2 hg (nb h2), boxed_stays h3 hg (nb h3), h4.grown hg h4.size (fun k e => Nat.le_trans hB (hr k e).1)⟩
end Go.Proofs.YtmjjedbdedemcaaGreatDoor
