/-
  Read: what a round does to its memory.
-/
import Derived.Test.YtbaclihlckfndaaDoorU
namespace Go.Proofs.YtbaclihlckfndaaDoor
open Go.RowKit Go.Shelf
set_option linter.unusedVariables false
attribute [local go_sem] Oper.semAt_some

theorem ownsRow_mono {w : World} {base base' : Nat} {e : TypeId} {size : Nat} {v : Value} {n : Nat} {xs : List Value} (h : w.ownsRow base e size v n xs) (hb : base' ≤ base) : w.ownsRow base' e size v n xs := by
  refine ⟨h.1, ?_⟩
  rcases h.2 with h | ⟨g, cap, cur, h1, h2, h3⟩
  · exact .inl h
  · exact .inr ⟨g, cap, cur, h1, by omega, h3⟩
theorem info24 : (Tryd.prog.info? 24).map (fun i => (i.zero, i.size, i.bytes)) = some (some (.slice none 0 0), 1, 24) := by kernel_rfl
theorem info_parts24 : ∃ i, Tryd.prog.info? 24 = some i ∧ i.zero = some (.slice none 0 0) ∧ i.size = 1 ∧ i.bytes = 24 := by
  have h := info24
  cases hi : Tryd.prog.info? 24 with
  | none => rw [hi] at h; cases h
  | some i =>
    rw [hi] at h
    simp only [Option.map_some, Option.some.injEq, Prod.mk.injEq] at h
    exact ⟨i, rfl, h.1, h.2.1, h.2.2⟩
section
variable {F : Fence} {n : Nat} {w : World} {o : Oper} {a : Act} {Q : Exit → Act → World → Prop} {K : Act → World → Prop}
/-- append of one slice to a row of slices of one's own, as one operation. -/
theorem opIn_app1 (hF : ∀ f, F.fn f) (s x : Operand) (ho : o.op = .call { callee := .builtin .append, args := #[s, x], argTypes := #[22, 22] })
    (base : Nat) (v : Value) (k : Nat) (xs : List Value) (hs : a.eval s = v) (hown : w.ownsRow base 24 1 v k xs)
    (g cap : Nat) (u : Value) (hx : a.eval x = .slice (some ⟨g, 0, none⟩) 1 cap) (hc : w.cell? ⟨g, 0, none⟩ = some u) (hu : u.oneCell' = true)
    (hb : k + 1 ≤ 1099511627776) (hbase : base ≤ w.heap.size)
    (h : ∀ v' w', w'.ownsRow base 24 1 v' (k + 1) (xs ++ [u]) → w.grownBy w' v.ownBlock → K (a.put o.dst v') w') : Oper.wpIn F n Tryd.prog o a w K Q := by
  obtain ⟨i0, hi, hz0, hz1, hz2⟩ := info_parts24
  obtain ⟨v', w', hrun, r1, r2, r3⟩ := run_append_own (P := Tryd.prog) w base 22 o.type 24 i0 (.slice none 0 0) 1 24 Tryd.underlying22 hi hz0 hz1 hz2 rfl (by decide) v k xs hown ⟨g, 0, none⟩ 1 cap [u] rfl
    (fun j u' hj => by
      cases j with
      | zero => simp at hj; subst hj; simpa [Addr.add] using hc
      | succ j => simp at hj) (fun u' hu' => by rw [List.mem_singleton.1 hu']; exact hu) (by unfold maxLen; omega) (by omega) hbase
  refine ⟨fun f _ => hF f, ?_⟩
  rw [Oper.semAt_plain F _ _ (by rw [ho]; intro c hc'; cases hc')]
  simp [execOp, ho, resolve, invoke, builtin, hs, hx, hrun, Result.andThen]
  exact h v' w' r1 r2
end

theorem run_cur (ps : List Says) : ∀ s : St, (∀ p ∈ ps, p.bytes.length ≤ 244) → s.cur.length ≤ 244 * s.seen → (s.run ps).cur.length ≤ 244 * (s.run ps).seen := by
  induction ps with
  | nil => intro s _ h; exact h
  | cons p ps ih =>
    intro s hp h
    have h1 := hp p (by simp)
    show ((s.step p).run ps).cur.length ≤ 244 * ((s.step p).run ps).seen
    refine ih _ (fun q hq => hp q (by simp [hq])) ?_
    unfold St.step
    split
    · simp
    · simp; omega
theorem run_recs (ps : List Says) : ∀ s : St, s.recs.length ≤ s.seen → (s.run ps).recs.length ≤ (s.run ps).seen := by
  induction ps with
  | nil => intro s h; exact h
  | cons p ps ih =>
    intro s h
    show ((s.step p).run ps).recs.length ≤ ((s.step p).run ps).seen
    refine ih _ ?_
    unfold St.step
    split
    · simp; omega
    · simp; omega
theorem parts_len {w0 : World} (ps : List (Part w0)) : ∀ p ∈ ps.map (·.p), p.bytes.length ≤ 244 := by
  intro p hp
  simp at hp
  obtain ⟨q, _, rfl⟩ := hp
  exact q.ok.len

/-- What lay there, the parts and what are no cells stay. -/
def Mv (g0 : Nat) (W W' : World) : Prop := Kp53 g0 W W' ∧ KeepsOthers W W'
theorem Mv.trans {g0 : Nat} {A B C : World} (h : Mv g0 A B) (k : Mv g0 B C) : Mv g0 A C := ⟨kp53_t h.1 k.1, h.2.trans k.2⟩
theorem Mv.box {g0 B : Nat} {W : World} {t : TypeId} {v : Value} (h : Boxed W B t v) (ht : t ≠ 53) (hB : g0 ≤ B) (u : Value) : Mv g0 W (W.setCell ⟨B, 0, none⟩ u) :=
  ⟨kp53_grown (grownBy_setCell' W B u) (Nat.le_trans hB (Nat.le_of_lt h.lt)) (fun k e => by cases e; exact ⟨hB, fun cs fr hc => by rw [show W.heap[B]? = _ from h] at hc; cases hc; exact ht rfl⟩), KeepsOthers.setCell W _ _⟩
theorem Mv.row {g0 base : Nat} {W W' : World} {e : TypeId} {v : Value} {k size : Nat} {xs : List Value} (h : W.ownsRow base e size v k xs) (he : e ≠ 53) (hb : g0 ≤ base) (hz : g0 ≤ W.heap.size) (hG : W.grownBy W' v.ownBlock) : Mv g0 W W' := by
  rcases h.2 with ⟨rfl, _⟩ | ⟨g, cap, cur, rfl, hbg, hg, _⟩
  · exact ⟨kp53_grown hG hz (fun k e => by simp [Value.ownBlock] at e), KeepsOthers.of_grownBy hG (fun j o ej hj => by simp [Value.ownBlock] at ej)⟩
  · refine ⟨kp53_grown hG hz (fun k ek => ?_), KeepsOthers.of_grownBy hG (fun j o ej hj => ?_)⟩
    · obtain rfl : g = k := by simpa [Value.ownBlock] using ek
      exact ⟨by omega, fun cs fr hc => by rw [hg] at hc; cases hc; exact he rfl⟩
    · obtain rfl : g = j := by simpa [Value.ownBlock] using ej
      rw [hg] at hj; cases hj; rfl
theorem Mv.below {g0 : Nat} {W W' : World} (h : Below W.heap.size W W') (hz : g0 ≤ W.heap.size) : Mv g0 W W' :=
  ⟨kp53_grown (below_grown h) hz (fun k e => by cases e), KeepsOthers.of_grownBy (below_grown h) (fun j o ej => by cases ej)⟩
theorem Mv.drew {g0 : Nat} {W : World} (hz : g0 ≤ W.heap.size) : Mv g0 W W.drew := Mv.below (Below.ofdrew (Below.refl _ _)) hz
theorem Mv.alloc {g0 : Nat} {W : World} (hz : g0 ≤ W.heap.size) (o : Obj) : Mv g0 W (W.alloc o) := Mv.below ((Below.refl _ W).alloc (Nat.le_refl _) o) hz

theorem Inv.z {g0 : Nat} {W : World} {s : St} {vl vo : Value} {bo : Nat} {vs : List Value} (h : Inv g0 W s vl vo bo vs) : g0 ≤ W.heap.size := Nat.le_trans h.lo h.hi
theorem Inv.below {g0 : Nat} {W W' : World} {s : St} {vl vo : Value} {bo : Nat} {vs : List Value} (h : Inv g0 W s vl vo bo vs) (hb : Below W.heap.size W W') : Inv g0 W' s vl vo bo vs := h.own (below_grown hb) (fun r e => by cases e)

/-- One more seen, and its bytes behind what is open. -/
theorem Inv.mid {g0 : Nat} {W W2 : World} {s : St} {vl vo v' : Value} {bo n : Nat} {vs : List Value} {bytes : List Int} (h : Inv g0 W s vl vo bo vs) (hn : bytes.length = n)
    (hO : W2.ownsRow bo 5 1 v' (s.cur.length + n) ((s.cur ++ bytes).map (Value.int .u8))) (hG : (W.setCell ⟨g0 + 1 + 1, 0, none⟩ (.int .i64 ((s.seen : Int) + 1))).grownBy W2 vo.ownBlock) :
    Boxed W2 (g0 + 1) 24 vo ∧ Inv g0 (W2.setCell ⟨g0 + 1, 0, none⟩ v') ⟨s.recs, s.cur ++ bytes, s.seen + 1, s.good⟩ vl v' bo vs ∧ Mv g0 W (W2.setCell ⟨g0 + 1, 0, none⟩ v') := by
  subst hn
  have G1 := grownBy_setCell' W (g0 + 1 + 1) (.int .i64 ((s.seen : Int) + 1))
  have M1 : Mv g0 W _ := Mv.box h.n (by decide) (by omega) (.int .i64 ((s.seen : Int) + 1))
  have l1 := h.l.other (show g0 ≠ g0 + 1 + 1 by omega) (.int .i64 ((s.seen : Int) + 1))
  have o1 := h.o.other (show g0 + 1 ≠ g0 + 1 + 1 by omega) (.int .i64 ((s.seen : Int) + 1))
  have n1 := h.n.set (.int .i64 ((s.seen : Int) + 1))
  have g1 := h.g.other (show g0 + 1 + 1 + 1 ≠ g0 + 1 + 1 by omega) (.int .i64 ((s.seen : Int) + 1))
  have r1 := h.rows.kept G1 (.inr (h.n.not_row (by decide) h.rows).symm)
  have c1 := h.cur.kept G1 (.inr (h.n.not_row (by decide) h.cur).symm)
  have p1 := h.recs.kept G1 (fun k e => by cases e; exact .inr fun cs fr hc => by rw [show W.heap[g0 + 1 + 1]? = _ from h.n] at hc; cases hc)
  have z1 := h.hi
  have lo := h.lo
  rw [← World.size_setCell W ⟨g0 + 1 + 1, 0, none⟩ (.int .i64 ((s.seen : Int) + 1))] at z1
  generalize (W.setCell ⟨g0 + 1 + 1, 0, none⟩ (.int .i64 ((s.seen : Int) + 1))) = W1 at *
  clear G1
  have M2 : Mv g0 W1 W2 := Mv.row c1 (by decide) h.lo (by omega) hG
  have l2 := l1.kept hG (l1.not_row (by decide) c1)
  have o2 := o1.kept hG (o1.not_row (by decide) c1)
  have n2 := n1.kept hG (n1.not_row (by decide) c1)
  have g2 := g1.kept hG (g1.not_row (by decide) c1)
  have r2 := r1.kept hG (by
    rcases r1.2 with ⟨e, _⟩ | ⟨g, cap, cur, e, hbg, hg, _⟩
    · exact .inl (by rw [e]; rfl)
    · refine .inr fun e' => ?_
      rcases c1.2 with ⟨e2, _⟩ | ⟨k, cap2, cur2, e2, _, hk, _⟩
      · rw [e, e2] at e'; simp [Value.ownBlock] at e'
      · rw [e, e2] at e'
        obtain rfl : g = k := by simpa [Value.ownBlock] using e'
        rw [hg] at hk; cases hk)
  have p2 := p1.kept hG (fun k e => .inl (c1.lt k e).1)
  have z2 := hG.size
  have G3 := grownBy_setCell' W2 (g0 + 1) v'
  refine ⟨o2, ⟨l2.other (by omega) _, o2.set _, by simpa using n2.other (show g0 + 1 + 1 ≠ g0 + 1 by omega) v', g2.other (by omega) _, r2.kept G3 (.inr fun e => by have := (r2.lt _ e).1; omega), p2.kept G3 (fun k e => by cases e; exact .inr fun cs fr hc => by rw [show W2.heap[g0 + 1]? = _ from o2] at hc; cases hc), by rw [World.size_setCell]; omega, lo, ?_⟩, (M1.trans M2).trans (Mv.box o2 (by decide) (by omega) _)⟩
  have := hO.kept G3 (.inr (o2.not_row (by decide) hO).symm)
  simpa using this
/-- The record is ended. -/
theorem Inv.ended {g0 : Nat} {W W2 : World} {s : St} {vl vo vl' : Value} {bo : Nat} {vs : List Value} {ob : Obj} {sn : Int} (hsn : sn = (s.seen : Int)) (h : Inv g0 W s vl vo bo vs)
    (hO : W2.ownsRow (g0 + 1 + 1 + 1 + 1) 24 1 vl' (s.recs.length + 1) (vs ++ [vo])) (hG : (W.alloc ob).grownBy W2 vl.ownBlock) :
    Boxed W2 g0 22 vl ∧ Boxed (W2.setCell ⟨g0, 0, none⟩ vl') (g0 + 1 + 1 + 1) 3 (.int .i64 (s.good : Int)) ∧
    Boxed ((W2.setCell ⟨g0, 0, none⟩ vl').setCell ⟨g0 + 1 + 1 + 1, 0, none⟩ (.int .i64 sn)) (g0 + 1) 24 vo ∧
    Inv g0 (((W2.setCell ⟨g0, 0, none⟩ vl').setCell ⟨g0 + 1 + 1 + 1, 0, none⟩ (.int .i64 sn)).setCell ⟨g0 + 1, 0, none⟩ (.slice none 0 0)) ⟨s.recs ++ [s.cur], [], s.seen, s.seen⟩ vl' (.slice none 0 0) W2.heap.size (vs ++ [vo]) ∧
    Mv g0 W (((W2.setCell ⟨g0, 0, none⟩ vl').setCell ⟨g0 + 1 + 1 + 1, 0, none⟩ (.int .i64 sn)).setCell ⟨g0 + 1, 0, none⟩ (.slice none 0 0)) ∧ Boxed W2 (g0 + 1 + 1) 3 (.int .i64 sn) := by
  have M1 : Mv g0 W _ := Mv.alloc h.z ob
  have h1 := h.alloc ob
  have hnn : Boxed (W.alloc ob) (g0 + 1 + 1) 3 (.int .i64 sn) := by rw [hsn]; exact h1.n
  generalize W.alloc ob = W1 at *
  clear h
  have z1 := h1.hi
  have lo := h1.lo
  have M2 : Mv g0 W1 W2 := Mv.row h1.rows (by decide) (by omega) (by omega) hG
  have nb : ∀ B, B < g0 + 1 + 1 + 1 + 1 → some B ≠ vl.ownBlock := fun B hB e => by have := (h1.rows.lt B e.symm).1; omega
  have l2 := h1.l.kept hG (nb _ (by omega))
  have o2 := h1.o.kept hG (nb _ (by omega))
  have n2 := hnn.kept hG (nb _ (by omega))
  have g2 := h1.g.kept hG (nb _ (by omega))
  have bl : vl.ownBlock = none ∨ ∃ k cs, vl.ownBlock = some k ∧ W1.heap[k]? = some (Obj.cells cs 24 (0, 0)) := by
    rcases h1.rows.2 with ⟨e, _⟩ | ⟨g, cap, cur, e, hbg, hg, _⟩
    · exact .inl (by rw [e]; rfl)
    · exact .inr ⟨g, _, by rw [e]; rfl, hg⟩
  have p2 := h1.recs.kept hG (fun k e => .inr fun cs fr hc => by
    rcases bl with e2 | ⟨k2, cs2, e2, hk⟩
    · rw [e] at e2; cases e2
    · rw [e] at e2; cases e2; rw [hc] at hk; cases hk)
  have c2 := h1.cur.kept hG (by
    rcases h1.cur.2 with ⟨e, _⟩ | ⟨g, cap, cur, e, hbg, hg, _⟩
    · exact .inl (by rw [e]; rfl)
    · refine .inr fun e' => ?_
      rcases bl with e2 | ⟨k2, cs2, e2, hk⟩
      · rw [e, e2] at e'; cases e'
      · rw [e, e2] at e'
        obtain rfl : g = k2 := by simpa [Value.ownBlock] using e'
        rw [hg] at hk; cases hk)
  have z2 := hG.size
  have hlt := g2.lt
  clear h1 bl nb hG
  -- the list's box
  have no : ∀ B, B < g0 + 1 + 1 + 1 + 1 → vl'.ownBlock ≠ some B := fun B hB e => by have := (hO.lt B e).1; omega
  have G3 := grownBy_setCell' W2 g0 vl'
  have M3 : Mv g0 W2 _ := Mv.box l2 (by decide) (Nat.le_refl _) vl'
  have l3 := l2.set vl'
  have o3 := o2.other (show g0 + 1 ≠ g0 by omega) vl'
  have n3 := n2.other (show g0 + 1 + 1 ≠ g0 by omega) vl'
  have g3 := g2.other (show g0 + 1 + 1 + 1 ≠ g0 by omega) vl'
  have r3 := hO.kept G3 (.inr (no _ (by omega)))
  have p3 := p2.kept G3 (fun k e => by cases e; exact .inr fun cs fr hc => by rw [show W2.heap[g0]? = _ from l2] at hc; cases hc)
  have c3 := c2.kept G3 (.inr (l2.not_row (by decide) c2).symm)
  have e3 : (W2.setCell ⟨g0, 0, none⟩ vl').heap.size = W2.heap.size := World.size_setCell _ _ _
  refine ⟨l2, g3, ?_⟩
  generalize W2.setCell ⟨g0, 0, none⟩ vl' = W3 at *
  clear G3
  have G4 := grownBy_setCell' W3 (g0 + 1 + 1 + 1) (.int .i64 sn)
  have M4 : Mv g0 W3 _ := Mv.box g3 (by decide) (by omega) (.int .i64 sn)
  have l4 := l3.other (show g0 ≠ g0 + 1 + 1 + 1 by omega) (.int .i64 sn)
  have o4 := o3.other (show g0 + 1 ≠ g0 + 1 + 1 + 1 by omega) (.int .i64 sn)
  have n4 := n3.other (show g0 + 1 + 1 ≠ g0 + 1 + 1 + 1 by omega) (.int .i64 sn)
  have g4 := g3.set (.int .i64 sn)
  have r4 := r3.kept G4 (.inr (no _ (by omega)))
  have p4 := p3.kept G4 (fun k e => by cases e; exact .inr fun cs fr hc => by rw [show W3.heap[g0 + 1 + 1 + 1]? = _ from g3] at hc; cases hc)
  have c4 := c3.kept G4 (.inr (g3.not_row (by decide) c3).symm)
  have e4 : (W3.setCell ⟨g0 + 1 + 1 + 1, 0, none⟩ (.int .i64 sn)).heap.size = W3.heap.size := World.size_setCell _ _ _
  refine ⟨o4, ?_⟩
  generalize W3.setCell ⟨g0 + 1 + 1 + 1, 0, none⟩ (.int .i64 sn) = W4 at *
  clear G4
  have G5 := grownBy_setCell' W4 (g0 + 1) (.slice none 0 0)
  have M5 : Mv g0 W4 _ := Mv.box o4 (by decide) (by omega) (.slice none 0 0)
  have p5 := p4.kept G5 (fun k e => by cases e; exact .inr fun cs fr hc => by rw [show W4.heap[g0 + 1]? = _ from o4] at hc; cases hc)
  have c5 := c4.kept G5 (.inr (o4.not_row (by decide) c4).symm)
  subst hsn
  refine ⟨⟨l4.other (by omega) _, o4.set _, n4.other (by omega) _, g4.other (by omega) _, ?_, ?_, by rw [World.size_setCell]; omega, by omega, ⟨rfl, .inl ⟨rfl, rfl⟩⟩⟩, (((M1.trans M2).trans M3).trans M4).trans M5, n2⟩
  · simpa using r4.kept G5 (.inr (no _ (by omega)))
  · refine (p5.mono (by omega)).snoc (ownsRow_mono c5 lo) (fun k e => ?_)
    have := (c2.lt k e).2
    omega
end Go.Proofs.YtbaclihlckfndaaDoor
