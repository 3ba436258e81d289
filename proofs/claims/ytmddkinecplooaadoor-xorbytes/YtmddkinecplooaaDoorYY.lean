/-
  xor.Read.
-/
import Derived.Test.YtmddkinecplooaaDoorYX
import Derived.Test.YtmddkinecplooaaDoorI
import Derived.Deep.AppendLies
namespace Go.Proofs.YtmddkinecplooaaDoor
open Go.RowKit Go.Shelf
set_option linter.unusedVariables false
set_option linter.unusedSimpArgs false
attribute [local go_sem] Oper.semAt_some

theorem info22 : (Tryd.prog.info? 22).map (fun i => (i.zero, i.size, i.bytes)) = some (some (.int .u64 0), 1, 8) := by kernel_rfl
/-- What Read hands out. -/
def ReadT (V N : Nat) (m : Nat) (w : World) (e : Ending) (w' : World) : Prop :=
  ((∃ L a b P ts ad cap, rdA V N m = some (L, a, b, P, ts) ∧ e = .returned (.tuple #[.slice ad m cap, .int .i64 0]) ∧ HasU w' ad m cap ts) ∨ (rdA V N m = none ∧ e = .returned (.tuple #[.slice none 0 0, .int .i64 50]))) ∧ Below w.heap.size w w'

theorem hasU_of_owns {w : World} {base : Nat} {v : Value} {n : Nat} {l : List Int} (h : w.ownsRow base 22 1 v n (l.map (Value.int .u64))) (hr : ∀ x ∈ l, 0 ≤ x ∧ x < 18446744073709551616) :
    ∃ a cap, v = .slice a n cap ∧ HasU w a n cap l := by
  have hlen : l.length = n := by simpa using h.1
  rcases h.2 with ⟨rfl, rfl⟩ | ⟨g, cap, cur, rfl, hbg, hg, hnc, hcm, hcs, htake⟩
  · exact ⟨none, 0, rfl, hlen, Nat.le_refl _, Nat.zero_le _, fun h => by omega, hr⟩
  · refine ⟨some ⟨g, 0, none⟩, cap, rfl, hlen, hnc, hcm, fun hp => ⟨g, 0, rfl, ?_, fun i hi => ?_⟩, hr⟩
    · exact (Array.getElem?_eq_some_iff.1 hg).1
    · have := h.cells (g := g) rfl i (.int .u64 (l.getD i 0)) (by
        have hi' : i < l.length := by omega
        simp [List.getD, List.getElem?_eq_getElem hi'])
      rwa [add_plain] at this

/-- append of one number to a row of one's own, in a fence. -/
theorem wpListIn_lies3 {F : Fence} {n : Nat} {w : World} {ops : Array Oper} {rest : List Oper} {o : Oper} {a : Act} {Q : Exit → Act → World → Prop} (hgd : o.guard = none) (s x : Operand)
    (ho : o.op = .call { callee := .builtin .append, args := #[s, x], argTypes := #[60, 60] }) (base : Nat) (v : Value) (k : Nat) (xs : List Value) (hs : a.eval s = v) (hown : w.ownsRow base 22 1 v k xs)
    (ax : Nat) (b : Int) (hx : a.eval x = .slice (some ⟨ax, 0, none⟩) 1 1) (hc : w.cell? ⟨ax, 0, none⟩ = some (.int .u64 b)) (hb : k + 1 ≤ 1000000) (hbase : base ≤ w.heap.size)
    (h : ∀ g cap w', w'.ownsRow base 22 1 (.slice (some ⟨g, 0, none⟩) (k + 1) cap) (k + 1) (xs ++ [.int .u64 b]) → w.grownBy w' v.ownBlock → (v.ownBlock = some g ∨ g = w.heap.size) → wpListIn F n Tryd.prog ops Q rest (a.put o.dst (.slice (some ⟨g, 0, none⟩) (k + 1) cap)) w') :
    wpListIn F n Tryd.prog ops Q (o :: rest) a w := by
  obtain ⟨i0, hi, hz0, hz1, hz2⟩ := info_parts info22
  obtain ⟨g, cap, w', hrun, r1, r2, r3, _⟩ := run_append_lies (P := Tryd.prog) w 60 o.type base 22 i0 (.int .u64 0) 1 8 Tryd.underlying60 hi hz0 hz1 hz2 rfl (by decide) v k xs hown ⟨ax, 0, none⟩ 1 1 [.int .u64 b] rfl (fun j u hj => by
    have hj0 : j = 0 := by
      rcases Nat.lt_or_ge j 1 with h | h
      · omega
      · rw [List.getElem?_eq_none (by simpa using h)] at hj; cases hj
    subst hj0
    simp at hj
    subst hj
    rw [add_plain]; exact hc) (fun u hu => by simp at hu; subst hu; rfl) (by omega) (by unfold maxLen; omega) (by omega) hbase _ rfl
  refine wpListIn_plain hgd fun K hK' => ?_
  refine ⟨?_, ?_⟩
  · simp [Oper.about, ho, resolve, Target.leads, Sem.run_pure]
  · rw [Oper.semAt_plain F _ _ (by rw [ho]; intro c hc'; cases hc')]
    simp [execOp, ho, resolve, invoke, builtin, hs, hx, hrun, Result.andThen]
    exact hK' _ _ (h g cap w' r1 r2 r3)

/-- What holds between rounds of Read. -/
structure RI (w : World) (q s : Nat) (pre : List (Int × Nat)) (W : World) : Prop where
  all : ∀ x ∈ pre, x.2 = 0
  b4 : Boxed W w.heap.size 60 (.slice none 0 0)
  b5 : Boxed W (w.heap.size + 1) 32 (.int .i64 0)
  row : ∃ vl, Boxed W (w.heap.size + 1 + 1) 60 vl ∧ W.ownsRow w.heap.size 22 1 vl pre.length (pre.map (fun x => Value.int .u64 x.1)) ∧ vl.ownBlock ≠ some q ∧ vl.ownBlock ≠ some s
  bel : Below w.heap.size w W
theorem boxed_stays {A B : World} {row : Option Nat} {g : Nat} {t : TypeId} {v : Value} (h : Boxed A g t v) (hg : A.grownBy B row) (hr : ∀ r, row = some r → r ≠ g) : Boxed B g t v := h.kept hg (fun e => hr g e.symm rfl)
theorem RI.grown {w : World} {q s : Nat} {pre : List (Int × Nat)} {A B : World} {row : Option Nat} (h : RI w q s pre A) (hg : A.grownBy B row) (hq : w.heap.size + 1 + 1 < q) (hs : w.heap.size + 1 + 1 < s)
    (hr : ∀ r, row = some r → r = q ∨ r = s ∨ (w.heap.size ≤ r ∧ ∃ o : Obj, A.heap[r]? = some o ∧ o.isCells = false)) : RI w q s pre B := by
  have nb : ∀ {g t v}, Boxed A g t v → g ≤ w.heap.size + 1 + 1 → ∀ r, row = some r → r ≠ g := fun hb hle r e e' => by
    rcases hr r e with h1 | h1 | ⟨h1, o, ho, hc⟩
    · omega
    · omega
    · rw [e', show A.heap[_]? = _ from hb] at ho; cases ho; cases hc
  obtain ⟨vl, h1, h2, h3, h4⟩ := h.row
  refine ⟨h.all, boxed_stays h.b4 hg (nb h.b4 (by omega)), boxed_stays h.b5 hg (nb h.b5 (by omega)), ⟨vl, boxed_stays h1 hg (nb h1 (by omega)), h2.kept hg ?_, h3, h4⟩, h.bel.grown hg h.bel.size (fun k e => ?_)⟩
  · rcases h2.2 with ⟨rfl, _⟩ | ⟨g, cap, cur, rfl, _, hgb, _⟩
    · exact .inl rfl
    · refine .inr fun e' => ?_
      have e2 : row = some g := by simpa [Value.ownBlock] using e'.symm
      rcases hr g e2 with h5 | h5 | ⟨_, o, ho, hc⟩
      · exact h3 (by rw [h5]; rfl)
      · exact h4 (by rw [h5]; rfl)
      · rw [hgb] at ho; cases ho; cases hc
  · rcases hr k e with h5 | h5 | ⟨h5, _⟩ <;> omega
/-- A number more. -/
theorem RI.more {w : World} {q s : Nat} {pre : List (Int × Nat)} {W w1 : World} {vl : Value} {g cap : Nat} {t : Int} (h : RI w q s pre W) (hv : Boxed W (w.heap.size + 1 + 1) 60 vl) (ho : W.ownsRow w.heap.size 22 1 vl pre.length (pre.map (fun x => Value.int .u64 x.1))) (h3 : vl.ownBlock ≠ some q) (h4 : vl.ownBlock ≠ some s)
    (hq : q < W.heap.size) (hs : s < W.heap.size) (o1 : w1.ownsRow w.heap.size 22 1 (.slice (some ⟨g, 0, none⟩) (pre.length + 1) cap) (pre.length + 1) (pre.map (fun x => Value.int .u64 x.1) ++ [.int .u64 t]))
    (G : (W.alloc (.cells #[.int .u64 t] 22)).grownBy w1 vl.ownBlock) (hat : vl.ownBlock = some g ∨ g = (W.alloc (.cells #[.int .u64 t] 22)).heap.size) :
    Boxed w1 (w.heap.size + 1 + 1) 60 vl ∧ KeepsOthers W (w1.setCell ⟨w.heap.size + 1 + 1, 0, none⟩ (.slice (some ⟨g, 0, none⟩) (pre.length + 1) cap)) ∧ KpR w.heap.size W (w1.setCell ⟨w.heap.size + 1 + 1, 0, none⟩ (.slice (some ⟨g, 0, none⟩) (pre.length + 1) cap)) ∧
      RI w q s (pre ++ [(t, 0)]) (w1.setCell ⟨w.heap.size + 1 + 1, 0, none⟩ (.slice (some ⟨g, 0, none⟩) (pre.length + 1) cap)) := by
  obtain ⟨A1, A2, A3, A4, A5⟩ := Boxed.appended hv (by decide) ho (Nat.le_trans (Nat.le_refl _) h.bel.size) (by omega) o1 G
  have oth : ∀ k cs t' fr, W.heap[k]? = some (Obj.cells cs t' fr) → t' ≠ 22 → k ≠ w.heap.size + 1 + 1 → (w1.setCell ⟨w.heap.size + 1 + 1, 0, none⟩ (.slice (some ⟨g, 0, none⟩) (pre.length + 1) cap)).heap[k]? = some (Obj.cells cs t' fr) := fun k cs t' fr hk ht hne => by
    refine (Below.heap_setCell w1 _ _ k hne).trans ?_
    have hlt := (Array.getElem?_eq_some_iff.1 hk).1
    refine (G.block k (by simp; omega) (fun e => ?_)).trans ((Below.heap_alloc W _ k hlt).trans hk)
    rcases ho.2 with ⟨h5, _⟩ | ⟨g', cap', cur, h5, _, hgb, _⟩
    · rw [h5] at e; cases e
    · rw [h5] at e
      have : k = g' := by simpa [Value.ownBlock] using e
      rw [← this, hk] at hgb; cases hgb; exact ht rfl
  have hsz := h.b4.lt
  refine ⟨A1, A4, ⟨A5, fun k cs t' fr hk ht => oth k cs t' fr hk (by rcases ht with rfl | rfl | rfl | rfl <;> decide) (fun e => ?_)⟩, ⟨fun x hx => ?_, oth _ _ _ _ h.b4 (by decide) (by omega), oth _ _ _ _ h.b5 (by decide) (by omega), ⟨_, A2, by simpa using A3, ?_, ?_⟩, h.bel.trans A5⟩⟩
  · rw [e, show W.heap[_]? = _ from hv] at hk; cases hk; rcases ht with h | h | h | h <;> cases h
  · rcases List.mem_append.1 hx with h5 | h5
    · exact h.all x h5
    · simp at h5; rw [h5]
  · intro e
    have : g = q := by simpa [Value.ownBlock] using e
    rcases hat with h5 | h5
    · exact h3 (by rw [h5, this])
    · simp at h5; omega
  · intro e
    have : g = s := by simpa [Value.ownBlock] using e
    rcases hat with h5 | h5
    · exact h4 (by rw [h5, this])
    · simp at h5; omega
/-- What holds where a round has returned. -/
def RIx (w : World) (pre : List (Int × Nat)) (W : World) : Prop := ∃ p x, pre = p ++ [x] ∧ x.2 ≠ 0 ∧ Boxed W w.heap.size 60 (.slice none 0 0) ∧ Boxed W (w.heap.size + 1) 32 (.int .i64 (x.2 : Int)) ∧ Below w.heap.size w W
theorem RIx.own (w : World) (B : Nat) (hB : w.heap.size ≤ B) : OwnFrom B (RIx w) := by
  rintro pre A A' row ⟨p, x, h0, h1, h2, h3, h4⟩ hg hr
  have nb : ∀ {g t v}, Boxed A g t v → ∀ r, row = some r → r ≠ g := fun hb r e e' => by
    obtain ⟨_, o, ho, hc⟩ := hr r e
    rw [e', show A.heap[_]? = _ from hb] at ho; cases ho; cases hc
  exact ⟨p, x, h0, h1, boxed_stays h2 hg (nb h2), boxed_stays h3 hg (nb h3), h4.grown hg h4.size (fun k e => Nat.le_trans hB (hr k e).1)⟩

set_option maxRecDepth 100000 in
set_option maxHeartbeats 2000000 in
theorem read_no (n : Nat) (hn : 5 ≤ n) (w : World) (a : Option Addr) (len cap : Nat) (m : Int) (hm : isCnt m = false) :
    CallsIn Fence.wide n Tryd.prog 30 #[.slice a len cap, .int .i64 m] w fun e w' => e = .returned (.tuple #[.slice none 0 0, .int .i64 2]) ∧ Below w.heap.size w w' := by
  have C := hide (count_any m)
  have h1 : 1 ≤ n := by omega
  rw [hm] at C
  clear hm
  refine callsIn_of_wp_marks Tryd.func30 rfl trivial ?_ rfl
  simp only [Tryd.ntmps30, List.size_toArray, List.length_cons, List.length_nil, Nat.reduceAdd, Nat.reduceSub, Array.replicate_succ, Array.replicate_zero, List.push_toArray, List.append_toArray, List.nil_append, List.cons_append]
  gi_wp2
  refine ⟨trivial, (callsIn_wide.2 (C.out _)).mono ?_⟩
  rintro e w' ⟨rfl, rfl⟩
  have u4 : Boxed ((w.alloc (.cells #[.slice none 0 0] 60)).alloc (.cells #[.int .i64 2] 32)) w.heap.size 60 (.slice none 0 0) := (Boxed.new w 60 (.slice none 0 0)).alloc _
  have u5 : Boxed ((w.alloc (.cells #[.slice none 0 0] 60)).alloc (.cells #[.int .i64 2] 32)) (w.heap.size + 1) 32 (.int .i64 2) := by
    have := Boxed.new (w.alloc (.cells #[.slice none 0 0] 60)) 32 (.int .i64 2)
    rwa [World.size_alloc] at this
  have o0 := u4.cell
  have o1 := u5.cell
  clear u4 u5
  gi_wp2
  exact ⟨.tuple #[.slice none 0 0, .int .i64 2], by simp [results, Tryd.f30, go_sem, o0, o1], rfl, ((Below.refl _ w).alloc (Nat.le_refl _) _).alloc (by simp) _⟩

set_option maxRecDepth 100000 in
set_option maxHeartbeats 2000000 in
theorem read_in (n : Nat) (hn : 5 ≤ n) (w : World) (a : Option Addr) (len cap : Nat) (lb : List Int) (m : Nat) (hm : m ≤ 4096) (H : Has w a len cap lb) (hlen : len ≤ 1099511627776) (hT : Tab w) :
    CallsIn Fence.wide n Tryd.prog 30 #[.slice a len cap, .int .i64 (m : Int)] w (ReadT (num lb) lb.length m w) := by
  have h1 : 1 ≤ n := by omega
  have hpos := hide hT.pos
  have C := hide (count_any (m : Int))
  rw [show isCnt (m : Int) = true by simp [isCnt]; omega] at C
  replace hT := hide hT
  replace H := hide H
  refine callsIn_of_wp_marks Tryd.func30 rfl trivial ?_ rfl
  simp only [Tryd.ntmps30, List.size_toArray, List.length_cons, List.length_nil, Nat.reduceAdd, Nat.reduceSub, Array.replicate_succ, Array.replicate_zero, List.push_toArray, List.append_toArray, List.nil_append, List.cons_append]
  gi_wp2
  refine ⟨trivial, (callsIn_wide.2 (C.out _)).mono ?_⟩
  rintro e w' ⟨rfl, rfl⟩
  gi_wp2
  have B1 : Below w.heap.size w (((w.alloc (.cells #[.slice none 0 0] 60)).alloc (.cells #[.int .i64 0] 32)).alloc (.cells #[.slice none 0 0] 60)) := (((Below.refl _ w).alloc (Nat.le_refl _) _).alloc (by simp) _).alloc (by simp; omega) _
  refine ⟨trivial, (callsIn_wide.2 (newRd _ w.heap.size B1.size a len cap lb (H.out.kept B1 (Nat.le_refl _)) hlen)).mono ?_⟩
  rintro e w4 ⟨q, v, rfl, b4, R4, hn4⟩
  gi_wp2
  refine ⟨trivial, (values_in (n - 1) q (m : Int) w4).mono ?_⟩
  rintro e w' ⟨rfl, rfl⟩
  gi_wp2
  have s4 := b4.size
  simp only [World.size_alloc] at s4 hn4
  have hq0 := hn4 q (.inl rfl)
  have hqlt := R4.lt.2
  have b4' := B1.trans (b4.mono B1.size)
  have K5 : Below w4.heap.size w4 ((w4.alloc (.cells #[.pointer (some ⟨q, 0, none⟩)] 48)).alloc (.cells #[.int .i64 (m : Int)] 3)) := ((Below.refl _ w4).alloc (Nat.le_refl _) _).alloc (by simp) _
  have BB := b4'.trans (K5.mono b4'.size)
  have R5 := R4.below K5 (Nat.le_refl _)
  have T5 := (hT.out.kept b4' hpos.out).kept K5 (Nat.lt_of_lt_of_le hpos.out b4'.size)
  have q1 : ((w4.alloc (.cells #[.pointer (some ⟨q, 0, none⟩)] 48)).alloc (.cells #[.int .i64 (m : Int)] 3)).cell? ⟨w4.heap.size + 1, 0, none⟩ = some (.int .i64 (m : Int)) := by
    have := (Boxed.new (w4.alloc (.cells #[.pointer (some ⟨q, 0, none⟩)] 48)) 3 (.int .i64 (m : Int))).cell
    rw [World.size_alloc] at this
    exact this
  have q2 : ((w4.alloc (.cells #[.pointer (some ⟨q, 0, none⟩)] 48)).alloc (.cells #[.int .i64 (m : Int)] 3)).heap[w4.heap.size]? = some (.cells #[.pointer (some ⟨q, 0, none⟩)] 48 (0, 0)) := (Boxed.new w4 48 (.pointer (some ⟨q, 0, none⟩))).alloc _
  have u4 : Boxed ((w4.alloc (.cells #[.pointer (some ⟨q, 0, none⟩)] 48)).alloc (.cells #[.int .i64 (m : Int)] 3)) w.heap.size 60 (.slice none 0 0) := by
    have := ((Boxed.new w 60 (.slice none 0 0)).alloc (.cells #[.int .i64 0] 32)).alloc (.cells #[.slice none 0 0] 60)
    exact (K5.block _ (by omega)).trans ((b4.block _ (by simp; omega)).trans this)
  have u5 : Boxed ((w4.alloc (.cells #[.pointer (some ⟨q, 0, none⟩)] 48)).alloc (.cells #[.int .i64 (m : Int)] 3)) (w.heap.size + 1) 32 (.int .i64 0) := by
    have := (Boxed.new (w.alloc (.cells #[.slice none 0 0] 60)) 32 (.int .i64 0)).alloc (.cells #[.slice none 0 0] 60)
    rw [World.size_alloc] at this
    exact (K5.block _ (by omega)).trans ((b4.block _ (by simp)).trans this)
  have u6 : Boxed ((w4.alloc (.cells #[.pointer (some ⟨q, 0, none⟩)] 48)).alloc (.cells #[.int .i64 (m : Int)] 3)) (w.heap.size + 1 + 1) 60 (.slice none 0 0) := by
    have := Boxed.new ((w.alloc (.cells #[.slice none 0 0] 60)).alloc (.cells #[.int .i64 0] 32)) 60 (.slice none 0 0)
    rw [World.size_alloc, World.size_alloc] at this
    exact (K5.block _ (by omega)).trans ((b4.block _ (by simp)).trans this)
  have z5 : ((w4.alloc (.cells #[.pointer (some ⟨q, 0, none⟩)] 48)).alloc (.cells #[.int .i64 (m : Int)] 3)).heap.size = w4.heap.size + 1 + 1 := by simp
  generalize ((w4.alloc (.cells #[.pointer (some ⟨q, 0, none⟩)] 48)).alloc (.cells #[.int .i64 (m : Int)] 3)) = w5 at *
  have hseq : SeqQ Fence.wide (n - 1) Tryd.prog 56 #[.pointer (some ⟨w4.heap.size + 1, 0, none⟩), .pointer (some ⟨w4.heap.size, 0, none⟩)] (fun x : Int × Nat => #[.int .u64 x.1, .int .i64 (x.2 : Int)]) (KpR w.heap.size) (FinT (num lb) lb.length m) (StpT (num lb) lb.length m) 4096 q w5 := fun l J Jx W hW hst hY hJ0 =>
    values1_in (n - 1) (by omega) l (w4.heap.size + 1) w4.heap.size w.heap.size q m v lb J Jx hm W hst hY (R5.below hW (Nat.le_refl _)) (T5.kept hW T5.pos) hpos.out ((hW.cell (p := ⟨w4.heap.size + 1, 0, none⟩) (by show w4.heap.size + 1 < _; omega)).trans q1) ((hW.block _ (by omega)).trans q2) (by omega) hJ0
  have hI0 : RI w q (w5.heap.size + 5) [] w5 := ⟨fun x hx => by simp at hx, u4, u5, ⟨_, u6, World.ownsRow_nil _ _ _ _, by simp [Value.ownBlock], by simp [Value.ownBlock]⟩, BB⟩
  clear R4 hn4 B1 b4 b4' K5 u4 u5 u6 q1 q2
  refine wpIn_rangeQ rfl h1 (gf := 56) (lb := #[.pointer (some ⟨w4.heap.size + 1, 0, none⟩), .pointer (some ⟨w4.heap.size, 0, none⟩)]) rfl trivial (enters_of Tryd.func56 (by kernel_rfl) rfl) (by omega) hseq
    KpR.trans (KpR.put BB.size) (fun _ => rfl) (RI w q (w5.heap.size + 5)) (RIx w)
    (fun s A B row h hg hr => h.grown hg (by omega) (by omega) (fun r e => .inr (.inr ⟨by have := (hr r e).1; omega, (hr r e).2⟩)))
    (RIx.own w _ BB.size)
    (fun s A B r h hg hr => h.grown hg (by omega) (by omega) (fun r' e => by cases e; rcases hr with h | h; exact .inl h; exact .inr (.inl h)))
    hI0
    (fun x => { tmps := #[.slice a len cap, .int .i64 (m : Int), undef, undef, .pointer (some ⟨w.heap.size, 0, none⟩), .pointer (some ⟨w.heap.size + 1, 0, none⟩), .pointer (some ⟨w.heap.size + 1 + 1, 0, none⟩), .int .u64 x.1, .int .i64 (x.2 : Int), .int .i64 (m : Int), .bool true, .bool false, .slice a len cap, .pointer (some ⟨q, 0, none⟩), .int .i64 (m : Int), .func (.func 56) #[] #[.pointer (some ⟨w4.heap.size + 1, 0, none⟩), .pointer (some ⟨w4.heap.size, 0, none⟩)], .int .u64 x.1, .int .i64 (x.2 : Int), undef, undef, undef, undef, undef, undef, undef, undef], defers := [] }) ?assign ?body ?done ?stop
  case assign =>
    intro l x W K hK
    gi_wp2
    exact hK
  case body =>
    intro l pre x W hi hsz hlen
    obtain ⟨t, er⟩ := x
    obtain ⟨vl, hv, ho, h3, h4⟩ := hi.row
    by_cases her : er = 0
    · subst her
      simp only [show ((0 : Nat) : Int) = 0 from rfl]
      have v6 := hv.cell
      have hoA : Hid ((W.alloc (.cells #[.int .u64 t] 22)).ownsRow w.heap.size 22 1 vl pre.length (pre.map (fun x => Value.int .u64 x.1))) := ho.alloc _
      have hc1 : Hid ((W.alloc (.cells #[.int .u64 t] 22)).cell? ⟨W.heap.size, 0, none⟩ = some (.int .u64 t)) := (Boxed.new W 22 (.int .u64 t)).cell
      have hbs : Hid (w.heap.size ≤ (W.alloc (.cells #[.int .u64 t] 22)).heap.size) := by have := hi.bel.size; show _ ≤ _; simp; omega
      have MO := hide (fun (w1 : World) (g cap : Nat) => hi.more (w1 := w1) (g := g) (cap := cap) (t := t) hv ho h3 h4 (by omega) hsz)
      obtain ⟨av, cv, hvs⟩ : ∃ av cv, vl = .slice av pre.length cv := by
        rcases ho.2 with ⟨rfl, h5⟩ | ⟨g, cap, cur, rfl, _⟩
        · exact ⟨none, 0, by rw [h5]⟩
        · exact ⟨_, _, rfl⟩
      replace hi := hide hi
      replace hv := hide hv
      replace ho := hide ho
      replace h3 := hide h3
      replace h4 := hide h4
      subst hvs
      gi_wp2_with (refine wpListIn_lies3 rfl (.tmp 21) (.tmp 23) rfl w.heap.size _ pre.length _ rfl hoA.out W.heap.size t rfl hc1.out (by omega) hbs.out ?_; intro g cap w1 o1 G1 hat; obtain ⟨A1, A2, A3, A4⟩ := MO.out _ _ _ o1 G1 hat; have a6 := A1.cell; have a7 := A1.frozen; replace A2 := hide A2; replace A3 := hide A3; replace A4 := hide A4; clear A1 MO o1 G1 hat v6)
      exact ⟨A2.out, A3.out, A4.out⟩
    · have j1 : ((er : Int) != 0) = true := by rw [bne_iff_ne]; omega
      have v4 := hi.b4.cell
      have f4 := hi.b4.frozen
      have X4 := hi.b4.set (.slice none 0 0)
      have X5 : Boxed (W.setCell ⟨w.heap.size, 0, none⟩ (.slice none 0 0)) (w.heap.size + 1) 32 (.int .i64 0) := (Below.heap_setCell W _ _ _ (by show w.heap.size + 1 ≠ w.heap.size; omega)).trans hi.b5
      have v5 := X5.cell
      have f5 := X5.frozen
      have Y4 : Boxed ((W.setCell ⟨w.heap.size, 0, none⟩ (.slice none 0 0)).setCell ⟨w.heap.size + 1, 0, none⟩ (.int .i64 (er : Int))) w.heap.size 60 (.slice none 0 0) := (Below.heap_setCell _ _ _ _ (by show w.heap.size ≠ w.heap.size + 1; omega)).trans X4
      have Y5 := X5.set (.int .i64 (er : Int))
      have hk := hide ((KeepsOthers.setCell W ⟨w.heap.size, 0, none⟩ (.slice none 0 0)).trans (KeepsOthers.setCell _ ⟨w.heap.size + 1, 0, none⟩ (.int .i64 (er : Int))))
      have hb := hide ((hi.bel.setCell (p := ⟨w.heap.size, 0, none⟩) (Nat.le_refl _) (.slice none 0 0)).setCell (p := ⟨w.heap.size + 1, 0, none⟩) (by show w.heap.size ≤ w.heap.size + 1; omega) (.int .i64 (er : Int)))
      replace Y4 := hide Y4
      replace Y5 := hide Y5
      clear hv ho h3 h4 hi X4 X5
      gi_wp2
      exact ⟨hk.out, _, _, rfl, her, Y4.out, Y5.out, hb.out⟩
  case done =>
    intro Dd xs W hD hS hi hK
    rcases hS with ⟨L, aa, bb, P, ts, hA, rfl⟩ | ⟨x, hx, hx0⟩
    · obtain ⟨vl, hv, ho, h3, h4⟩ := hi.row
      obtain ⟨hok, hLL, hP8, hts, hrng⟩ := rdA_fine hA hm
      rw [show (okPairs ts).map (fun x => Value.int .u64 x.1) = ts.map (Value.int .u64) by simp [okPairs, Function.comp_def], show (okPairs ts).length = m by simp [okPairs]; exact hts] at ho
      obtain ⟨av, cv, hvs, -⟩ := hasU_of_owns ho hrng
      subst hvs
      have X4 := hi.b4.set (.slice av m cv)
      have X5 : Boxed (W.setCell ⟨w.heap.size, 0, none⟩ (.slice av m cv)) (w.heap.size + 1) 32 (.int .i64 0) := (Below.heap_setCell W _ _ _ (by show w.heap.size + 1 ≠ w.heap.size; omega)).trans hi.b5
      have Y4 : Boxed ((W.setCell ⟨w.heap.size, 0, none⟩ (.slice av m cv)).setCell ⟨w.heap.size + 1, 0, none⟩ (.int .i64 0)) w.heap.size 60 (.slice av m cv) := (Below.heap_setCell _ _ _ _ (by show w.heap.size ≠ w.heap.size + 1; omega)).trans X4
      have Y5 := X5.set (.int .i64 0)
      have O1 := ho.kept (grownBy_setCell' W w.heap.size (.slice av m cv)) (.inr (hi.b4.not_row (by decide) ho).symm)
      have O2 := O1.kept (grownBy_setCell' _ (w.heap.size + 1) (.int .i64 0)) (.inr (X5.not_row (by decide) O1).symm)
      have hB := (hi.bel.setCell (p := ⟨w.heap.size, 0, none⟩) (Nat.le_refl _) (.slice av m cv)).setCell (p := ⟨w.heap.size + 1, 0, none⟩) (by show w.heap.size ≤ w.heap.size + 1; omega) (.int .i64 0)
      have hK2 : ((W.setCell ⟨w.heap.size, 0, none⟩ (.slice av m cv)).setCell ⟨w.heap.size + 1, 0, none⟩ (.int .i64 0)).heap[Dd]? = some (.deferred (some [])) :=
        (Below.heap_setCell _ _ _ _ (by show Dd ≠ w.heap.size + 1; omega)).trans ((Below.heap_setCell _ _ _ _ (by show Dd ≠ w.heap.size; omega)).trans hK)
      have o0 : ∀ o', (((W.setCell ⟨w.heap.size, 0, none⟩ (.slice av m cv)).setCell ⟨w.heap.size + 1, 0, none⟩ (.int .i64 0)).putObj Dd o').cell? ⟨w.heap.size, 0, none⟩ = some (.slice av m cv) := fun o' => (Y4.kept (grownBy_putObj' _ Dd o') (by simp; omega)).cell
      have o1 : ∀ o', (((W.setCell ⟨w.heap.size, 0, none⟩ (.slice av m cv)).setCell ⟨w.heap.size + 1, 0, none⟩ (.int .i64 0)).putObj Dd o').cell? ⟨w.heap.size + 1, 0, none⟩ = some (.int .i64 0) := fun o' => (Y5.kept (grownBy_putObj' _ Dd o') (by simp; omega)).cell
      have hfin := hide (fun o' => And.intro (ownsRow_putObj O2 o' hK2 rfl) (belowK_b (w := w) (Nat.le_refl _) _ Dd _ o' (by have := BB.size; omega) hK2 rfl rfl))
      have v6 := hv.cell
      have v4 := hi.b4.cell
      have f4 := hi.b4.frozen
      have v5 := X5.cell
      have f5 := X5.frozen
      replace hB := hide hB
      replace hrng := hide hrng
      clear X4 X5 Y4 Y5 O1 O2 hv ho h3 h4 hi
      gi_wp2
      refine ⟨by simp, .inl ⟨_, _, rfl, run_takeDeferred hK2, ?_⟩⟩
      refine ⟨.tuple #[.slice av m cv, .int .i64 0], by simp [results, Tryd.f30, go_sem, o0, o1], ?_⟩
      obtain ⟨a2, c2, e2, hH⟩ := hasU_of_owns (hfin.out _).1 hrng.out
      cases e2
      exact ⟨.inl ⟨L, aa, bb, P, ts, _, _, hA, rfl, hH⟩, hB.out.trans (hfin.out _).2⟩
    · exact absurd (hi.all x hx) hx0
  case stop =>
    intro Dd pre W hD hS hi hK
    obtain ⟨i, L, aa, bb, P, ts, x, hlt, hA, hpre, hx⟩ := hS
    obtain ⟨p, y, hpre2, hy0, Y4, Y5, hB⟩ := hi
    have hxy : x = y := by
      have h5 : okPairs ts ++ [x] = p ++ [y] := hpre.symm.trans hpre2
      have := congrArg List.getLast? h5
      simpa using this
    subst hxy
    have hAm := rdA_stuck (hx hy0).1 (show i + 1 ≤ m by omega)
    have hx50 := (hx hy0).2
    have o0 : ∀ o', (W.putObj Dd o').cell? ⟨w.heap.size, 0, none⟩ = some (.slice none 0 0) := fun o' => (Y4.kept (grownBy_putObj' _ Dd o') (by simp; omega)).cell
    have o1 : ∀ o', (W.putObj Dd o').cell? ⟨w.heap.size + 1, 0, none⟩ = some (.int .i64 (x.2 : Int)) := fun o' => (Y5.kept (grownBy_putObj' _ Dd o') (by simp; omega)).cell
    replace hB := hide hB
    clear Y4 Y5 hx hpre hpre2
    gi_wp2
    refine ⟨by simp, .inl ⟨_, _, rfl, run_takeDeferred hK, ?_⟩⟩
    refine ⟨.tuple #[.slice none 0 0, .int .i64 (x.2 : Int)], by simp [results, Tryd.f30, go_sem, o0, o1], ?_⟩
    exact ⟨.inr ⟨hAm, by rw [hx50]; rfl⟩, hB.out.trans (belowK_b (w := w) (Nat.le_refl _) W Dd _ _ (by have := BB.size; omega) hK rfl rfl)⟩

theorem read_any (w : World) (a : Option Addr) (len cap : Nat) (lb : List Int) (m : Nat) (hm : m ≤ 4096) (H : Has w a len cap lb) (hlen : len ≤ 1099511627776) (hT : Tab w) :
    Calls Tryd.prog 30 #[.slice a len cap, .int .i64 (m : Int)] w (ReadT (num lb) lb.length m w) := callsIn_wide.1 (read_in 5 (by omega) w a len cap lb m hm H hlen hT)
theorem read_bad (w : World) (a : Option Addr) (len cap : Nat) (m : Int) (hm : isCnt m = false) :
    Calls Tryd.prog 30 #[.slice a len cap, .int .i64 m] w fun e w' => e = .returned (.tuple #[.slice none 0 0, .int .i64 2]) ∧ Below w.heap.size w w' := callsIn_wide.1 (read_no 5 (by omega) w a len cap m hm)
end Go.Proofs.YtmddkinecplooaaDoor
