/-
  Cut: mathematics; lists of chunks in memory; what holds between its rounds.
-/
import Derived.Test.YtmjjedbdedemcaaDoorTW
import Derived.Test.YtmjjedbdedemcaaDoorTX
namespace Go.Proofs.YtmjjedbdedemcaaDoor
open Go.RowKit Go.Shelf
set_option linter.unusedVariables false
set_option linter.unusedSimpArgs false
attribute [local go_sem] Oper.semAt_some

theorem up_drop : ∀ (L : List Smp) (i : Nat), Up L → Up (L.drop i)
  | [], i, _ => by simp; trivial
  | x :: L, 0, h => h
  | x :: L, i + 1, h => by simpa using up_drop L i h.2
theorem up_take : ∀ (L : List Smp) (i : Nat), Up L → Up (L.take i)
  | [], i, _ => by simp; trivial
  | x :: L, 0, h => trivial
  | x :: L, i + 1, h => by
    rw [List.take_succ_cons]
    exact ⟨fun y hy => h.1 y (List.mem_of_mem_take hy), up_take L i h.2⟩
theorem okL_up : ∀ (ss : List Sm) (z : Z), Up (ss.map up) → (∀ s ∈ ss, s.1 ≤ 40000000 ∧ s.2 < 18446744073709551616) → (∀ s ∈ ss, z.n = 0 ∨ z.L < s.1) → OkL z ss
  | [], _, _, _, _ => trivial
  | s :: ss, z, hu, hb, hz => by
    have h1 := hb s (by simp)
    have h2 := hz s (by simp)
    refine ⟨⟨⟨by omega, by omega, ?_⟩, h1.2⟩, okL_up ss (nxt z s) hu.2 (fun t ht => hb t (by simp [ht])) (fun t ht => .inr ?_)⟩
    · rcases h2 with h2 | h2
      · exact .inl h2
      · exact .inr (by omega)
    · have := hu.1 (up t) (List.mem_map.2 ⟨t, ht, rfl⟩)
      simp only [up, nxt] at this ⊢
      omega
/-- A piece of a list. -/
def piece (R : List Sm) (i e : Nat) : List Sm := (R.drop i).take e
theorem piece_mem {R : List Sm} {i e : Nat} {s : Sm} (h : s ∈ piece R i e) : s ∈ R := List.mem_of_mem_drop (List.mem_of_mem_take h)
theorem piece_len {R : List Sm} {i e : Nat} (h : i + e ≤ R.length) : (piece R i e).length = e := by simp [piece]; omega
theorem piece_up {R : List Sm} (i e : Nat) (h : Up (R.map up)) : Up ((piece R i e).map up) := by
  unfold piece
  rw [List.map_take, List.map_drop]
  exact up_take _ _ (up_drop _ _ h)
theorem fit_piece {R : List Sm} (hu : Up (R.map up)) (hb : ∀ s ∈ R, s.1 ≤ 40000000 ∧ s.2 < 18446744073709551616) {i e : Nat} (h : i + e ≤ R.length ∧ 1 ≤ e ∧ e ≤ 120) : Fit (piece R i e) :=
  ⟨okL_up _ _ (piece_up i e hu) (fun s hs => hb s (piece_mem hs)) (fun s hs => .inl rfl), by rw [piece_len h.1]; omega, by rw [piece_len h.1]; omega⟩
theorem hasS_piece {w : World} {b off len cap : Nat} {R : List Sm} (h : HasS w (some ⟨b, off, none⟩) len cap (R.map up)) {i e : Nat} (he : i + e ≤ len ∧ 1 ≤ e ∧ e ≤ 120) : HasS w (some ⟨b, off + i * 2, none⟩) e e ((piece R i e).map up) := by
  have hl := h.hlen
  rw [List.length_map] at hl
  refine ⟨by rw [List.length_map, piece_len (by omega)], Nat.le_refl _, by unfold maxLen; omega, (fun hh => by cases hh), fun hp => ?_, fun s hs => ?_⟩
  · obtain ⟨b', off', e1, hb, hc⟩ := h.cells (by omega)
    cases e1
    refine ⟨b, off + i * 2, rfl, hb, fun j hj => ?_⟩
    have hg : ((piece R i e).map up).getD j noSmp = (R.map up).getD (i + j) noSmp := by
      unfold piece
      rw [List.map_take, List.map_drop]
      simp [List.getD, List.getElem?_take, List.getElem?_drop, hj]
    have := hc (i + j) (by omega)
    rw [hg, show off + i * 2 + j * 2 = off + (i + j) * 2 by omega]
    exact this
  · obtain ⟨t, ht, rfl⟩ := List.mem_map.1 hs
    exact h.vb (up t) (List.mem_map.2 ⟨t, piece_mem ht, rfl⟩)

/-- In the world w the slice (a, len, cap) has the rows of bytes cs. -/
structure HasL (w : World) (a : Option Addr) (len cap : Nat) (cs : List (List Int)) : Prop where
  hlen : cs.length = len
  le : len ≤ cap
  capb : cap ≤ maxLen
  cells : 0 < len → ∃ b off, a = some ⟨b, off, none⟩ ∧ b < w.heap.size ∧ ∀ i, i < len → ∃ ai ni ci, w.cell? ⟨b, off + i, none⟩ = some (.slice ai ni ci) ∧ Has w ai ni ci (cs.getD i [])
theorem HasL.kept {w w' : World} {a : Option Addr} {len cap : Nat} {ls : List (List Int)} {B : Nat} (h : HasL w a len cap ls) (hb : Below B w w') (hB : w.heap.size ≤ B) : HasL w' a len cap ls := by
  refine ⟨h.hlen, h.le, h.capb, fun hp => ?_⟩
  obtain ⟨b, off, e1, e2, e3⟩ := h.cells hp
  refine ⟨b, off, e1, Nat.lt_of_lt_of_le e2 hb.size, fun i hi => ?_⟩
  obtain ⟨ai, ni, ci, f1, f2⟩ := e3 i hi
  exact ⟨ai, ni, ci, (hb.cell (p := ⟨b, off + i, none⟩) (Nat.lt_of_lt_of_le e2 hB)).trans f1, f2.kept hb hB⟩
theorem infoB : (Tryd.prog.info? 24).map (fun i => (i.zero, i.size, i.bytes)) = some (some (.slice none 0 0), 1, 24) := by kernel_rfl
theorem info_partsB : ∃ i, Tryd.prog.info? 24 = some i ∧ i.zero = some (.slice none 0 0) ∧ i.size = 1 ∧ i.bytes = 24 := by
  have h := infoB
  cases hi : Tryd.prog.info? 24 with
  | none => rw [hi] at h; cases h
  | some i =>
    rw [hi] at h
    simp only [Option.map_some, Option.some.injEq, Prod.mk.injEq] at h
    exact ⟨i, rfl, h.1, h.2.1, h.2.2⟩
section
variable {F : Fence} {n : Nat} {w : World} {ops : Array Oper} {rest : List Oper} {o : Oper} {a : Act} {Q : Exit → Act → World → Prop}
/-- append of one slice to a row of slices of one's own, in a fence. -/
theorem wpListIn_app1 (hgd : o.guard = none) (s x : Operand) (ho : o.op = .call { callee := .builtin .append, args := #[s, x], argTypes := #[28, 28] })
    (base : Nat) (v : Value) (k : Nat) (xs : List Value) (hs : a.eval s = v) (hown : w.ownsRow base 24 1 v k xs)
    (g cap : Nat) (u : Value) (hx : a.eval x = .slice (some ⟨g, 0, none⟩) 1 cap) (hc : w.cell? ⟨g, 0, none⟩ = some u) (hu : u.oneCell' = true)
    (hb : k + 1 ≤ 1000000) (hbase : base ≤ w.heap.size)
    (h : ∀ v' w', w'.ownsRow base 24 1 v' (k + 1) (xs ++ [u]) → w.grownBy w' v.ownBlock → wpListIn F n Tryd.prog ops Q rest (a.put o.dst v') w') : wpListIn F n Tryd.prog ops Q (o :: rest) a w := by
  obtain ⟨i0, hi, hz0, hz1, hz2⟩ := info_partsB
  obtain ⟨v', w', hrun, r1, r2, r3⟩ := run_append_own (P := Tryd.prog) w base 28 o.type 24 i0 (.slice none 0 0) 1 24 Tryd.underlying28 hi hz0 hz1 hz2 rfl (by decide) v k xs hown ⟨g, 0, none⟩ 1 cap [u] rfl
    (fun j u' hj => by
      cases j with
      | zero => simp at hj; subst hj; simpa [Addr.add] using hc
      | succ j => simp at hj) (fun u' hu' => by rw [List.mem_singleton.1 hu']; exact hu) (by unfold maxLen; omega) (by omega) hbase
  refine wpListIn_plain hgd fun K hK' => ?_
  refine ⟨?_, ?_⟩
  · simp [Oper.about, ho, resolve, Target.leads, Sem.run_pure]
  · rw [Oper.semAt_plain F _ _ (by rw [ho]; intro c hc'; cases hc')]
    simp [execOp, ho, resolve, invoke, builtin, hs, hx, hrun, Result.andThen]
    exact hK' _ _ (h v' w' r1 r2)
end
theorem owns5_kept {W W' : World} {base n : Nat} {v : Value} {xs : List Value} {row : Option Nat} (h : W.ownsRow base 5 1 v n xs) (hg : W.grownBy W' row) (hr : ∀ r, row = some r → ∀ cs fr, W.heap[r]? ≠ some (.cells cs 5 fr)) : W'.ownsRow base 5 1 v n xs := by
  refine h.kept hg ?_
  rcases h.2 with ⟨rfl, _⟩ | ⟨g, cap, cur, rfl, _, hgb, _⟩
  · exact .inl rfl
  · refine .inr fun e => ?_
    exact hr g e.symm _ _ hgb
/-- The chunks that were made of the pieces. -/
def CellsC (W : World) (base : Nat) (R : List Sm) {len : Nat} (pre : List (Pc len)) (vs : List Value) : Prop :=
  ∀ (j : Nat) (x : Pc len), pre[j]? = some x → ∃ (c : List Int) (a : Option Addr) (n cap : Nat), vs[j]? = some (Value.slice a n cap) ∧ IsC (piece R x.i x.e) c ∧ W.ownsRow base 5 1 (.slice a n cap) n (c.map (Value.int .u8)) ∧ ∀ y ∈ c, 0 ≤ y ∧ y ≤ 255
theorem CellsC.kept {W W' : World} {base : Nat} {R : List Sm} {len : Nat} {pre : List (Pc len)} {vs : List Value} {row : Option Nat} (h : CellsC W base R pre vs) (hg : W.grownBy W' row) (hr : ∀ r, row = some r → ∀ cs fr, W.heap[r]? ≠ some (.cells cs 5 fr)) : CellsC W' base R pre vs := fun j x hj => by
  obtain ⟨c, a, n, cap, h1, h2, h3, h4⟩ := h j x hj
  exact ⟨c, a, n, cap, h1, h2, owns5_kept h3 hg hr, h4⟩
/-- What holds between rounds of Cut: its results lie at h and h + 1, its list at b4. -/
structure CI (w : World) (R : List Sm) (b4 : Nat) {len : Nat} (pre : List (Pc len)) (W : World) : Prop where
  r0 : Boxed W w.heap.size 28 (.slice none 0 0)
  r1 : Boxed W (w.heap.size + 1) 29 (.int .i64 0)
  row : ∃ vl vs, Boxed W b4 28 vl ∧ W.ownsRow w.heap.size 24 1 vl pre.length vs ∧ CellsC W w.heap.size R pre vs
  bel : Below w.heap.size w W
theorem CI.grown {w : World} {R : List Sm} {b4 : Nat} {len : Nat} {pre : List (Pc len)} {A B : World} {row : Option Nat} (h : CI w R b4 pre A) (hg : A.grownBy B row) (hr : ∀ r, row = some r → w.heap.size ≤ r ∧ ∃ o : Obj, A.heap[r]? = some o ∧ o.isCells = false) : CI w R b4 pre B := by
  have nb : ∀ {g t v}, Boxed A g t v → ∀ r, row = some r → r ≠ g := fun hb r e e' => by
    obtain ⟨_, o, ho, hc⟩ := hr r e
    rw [e', show A.heap[_]? = _ from hb] at ho; cases ho; cases hc
  obtain ⟨vl, vs, h1, h2, h3⟩ := h.row
  refine ⟨boxed_stays h.r0 hg (nb h.r0), boxed_stays h.r1 hg (nb h.r1), ⟨vl, vs, boxed_stays h1 hg (nb h1), h2.kept hg ?_, h3.kept hg (fun r e cs fr hc => ?_)⟩, h.bel.grown hg h.bel.size (fun k e => (hr k e).1)⟩
  · rcases h2.2 with ⟨rfl, _⟩ | ⟨g, cap, cur, rfl, _, hgb, _⟩
    · exact .inl rfl
    · refine .inr fun e' => ?_
      obtain ⟨_, o, ho, hc⟩ := hr g (by simpa [Value.ownBlock] using e'.symm)
      rw [hgb] at ho; cases ho; cases hc
  · obtain ⟨_, o, ho, hc'⟩ := hr r e
    rw [hc] at ho; cases ho; cases hc'
theorem CI.below {w : World} {R : List Sm} {b4 : Nat} {len : Nat} {pre : List (Pc len)} {A B : World} (h : CI w R b4 pre A) (hb : Below A.heap.size A B) : CI w R b4 pre B := h.grown (grown_of_below hb) (fun r e => by cases e)
theorem KpC.below {n₀ : Nat} {A B : World} (hb : Below A.heap.size A B) (hn : n₀ ≤ A.heap.size) : KpC n₀ A B := ⟨hb.mono hn, fun k cs t fr hk _ => (hb.block k (Array.getElem?_eq_some_iff.1 hk).1).trans hk⟩
/-- A chunk more. -/
theorem CI.more {w : World} {R : List Sm} {b4 : Nat} {len : Nat} {pre : List (Pc len)} {W w2 : World} {vl v' : Value} {vs : List Value} {x : Pc len} {c : List Int} {a : Option Addr} {n cap : Nat} (h : CI w R b4 pre W) (hb4 : w.heap.size + 1 < b4) (hv : Boxed W b4 28 vl) (ho : W.ownsRow w.heap.size 24 1 vl pre.length vs) (hc : CellsC W w.heap.size R pre vs)
    (hI : IsC (piece R x.i x.e) c) (hO : W.ownsRow w.heap.size 5 1 (.slice a n cap) n (c.map (Value.int .u8))) (hy : ∀ y ∈ c, 0 ≤ y ∧ y ≤ 255)
    (o1 : w2.ownsRow w.heap.size 24 1 v' (pre.length + 1) (vs ++ [.slice a n cap])) (G : (W.alloc (.cells #[.slice a n cap] 24)).grownBy w2 vl.ownBlock) :
    Boxed w2 b4 28 vl ∧ KeepsOthers W (w2.setCell ⟨b4, 0, none⟩ v') ∧ KpC w.heap.size W (w2.setCell ⟨b4, 0, none⟩ v') ∧ CI w R b4 (pre ++ [x]) (w2.setCell ⟨b4, 0, none⟩ v') := by
  obtain ⟨A1, A2, A3, A4, A5⟩ := Boxed.appended hv (by decide) ho h.bel.size (by omega) o1 G
  have oth : ∀ k cs t' fr, W.heap[k]? = some (Obj.cells cs t' fr) → t' ≠ 24 → k ≠ b4 → (w2.setCell ⟨b4, 0, none⟩ v').heap[k]? = some (Obj.cells cs t' fr) := fun k cs t' fr hk ht hne => by
    refine (Below.heap_setCell w2 _ _ k hne).trans ?_
    have hlt := (Array.getElem?_eq_some_iff.1 hk).1
    refine (G.block k (by simp; omega) (fun e => ?_)).trans ((Below.heap_alloc W _ k hlt).trans hk)
    rcases ho.2 with ⟨h5, _⟩ | ⟨g', cap', cur, h5, _, hgb, _⟩
    · rw [h5] at e; cases e
    · rw [h5] at e
      have : k = g' := by simpa [Value.ownBlock] using e
      rw [← this, hk] at hgb; cases hgb; exact ht rfl
  have own5 : ∀ {v xs n}, W.ownsRow w.heap.size 5 1 v n xs → (w2.setCell ⟨b4, 0, none⟩ v').ownsRow w.heap.size 5 1 v n xs := fun {v xs n} hh => by
    refine ⟨hh.1, ?_⟩
    rcases hh.2 with h1 | ⟨g, cp, cur, e, h2, h3, h4⟩
    · exact .inl h1
    · exact .inr ⟨g, cp, cur, e, h2, oth _ _ _ _ h3 (by decide) (fun e => by rw [e, show W.heap[_]? = _ from hv] at h3; cases h3), h4⟩
  refine ⟨A1, A4, ⟨A5, fun k cs t' fr hk ht => oth k cs t' fr hk (by rcases ht with rfl | rfl <;> decide) (fun e => ?_)⟩, ⟨oth _ _ _ _ h.r0 (by decide) (by omega), oth _ _ _ _ h.r1 (by decide) (by omega), ⟨_, _, A2, by simpa using A3, fun j y hj => ?_⟩, h.bel.trans A5⟩⟩
  · rw [e, show W.heap[_]? = _ from hv] at hk; cases hk; rcases ht with h | h <;> cases h
  · have hvl : vs.length = pre.length := by have := ho.1; omega
    rcases Nat.lt_or_ge j pre.length with hj2 | hj2
    · rw [List.getElem?_append_left hj2] at hj
      obtain ⟨c', a', n', cap', h1, h2, h3, h4⟩ := hc j y hj
      exact ⟨c', a', n', cap', by rw [List.getElem?_append_left (by omega)]; exact h1, h2, own5 h3, h4⟩
    · obtain rfl : j = pre.length := by
        have := (List.getElem?_eq_some_iff.1 hj).1
        simp at this; omega
      rw [List.getElem?_append_right (Nat.le_refl _)] at hj
      simp at hj
      subst hj
      exact ⟨c, a, n, cap, by rw [List.getElem?_append_right (by omega), hvl]; simp, hI, own5 hO, hy⟩
/-- What Cut hands out: one chunk for each piece. -/
def Cuts (R : List Sm) (cs : List (List Int)) : Prop := ∃ k, cs.length = k ∧ R.length ≤ 120 * k ∧ 120 * k < R.length + 120 ∧ ∀ j, j < k → IsC (piece R (120 * j) 120) (cs.getD j [])
end Go.Proofs.YtmjjedbdedemcaaDoor
