/-
  Read: its invariant, and what its walk needs.
-/
import Derived.Test.YtbaclihlckfndaaDoorT
namespace Go.Proofs.YtbaclihlckfndaaDoor
open Go.RowKit Go.Shelf
set_option linter.unusedVariables false
attribute [local go_sem] Oper.semAt_some

theorem ownsRow_own {W W' : World} {base : Nat} {e : TypeId} {size : Nat} {v : Value} {k : Nat} {xs : List Value} {row : Option Nat} (h : W.ownsRow base e size v k xs) (hg : W.grownBy W' row) (hr : ∀ r, row = some r → ∃ o : Obj, W.heap[r]? = some o ∧ o.isCells = false) : W'.ownsRow base e size v k xs := by
  refine h.kept hg ?_
  rcases h.2 with ⟨rfl, _⟩ | ⟨g, cap, cur, rfl, _, hgb, _⟩
  · exact .inl rfl
  · refine .inr fun e' => ?_
    obtain ⟨o, ho, hc⟩ := hr g e'.symm
    rw [hgb] at ho; cases ho; cases hc
/-- What Read has in memory. -/
structure Inv (g0 : Nat) (W : World) (s : St) (vl vo : Value) (bo : Nat) (vs : List Value) : Prop where
  l : Boxed W g0 22 vl
  o : Boxed W (g0 + 1) 24 vo
  n : Boxed W (g0 + 1 + 1) 3 (.int .i64 (s.seen : Int))
  g : Boxed W (g0 + 1 + 1 + 1) 3 (.int .i64 (s.good : Int))
  rows : W.ownsRow (g0 + 1 + 1 + 1 + 1) 24 1 vl s.recs.length vs
  recs : RecsIn W g0 bo vs s.recs
  hi : bo ≤ W.heap.size
  lo : g0 ≤ bo
  cur : W.ownsRow bo 5 1 vo s.cur.length (s.cur.map (Value.int .u8))
theorem Inv.own {g0 : Nat} {W W' : World} {s : St} {vl vo : Value} {bo : Nat} {vs : List Value} {row : Option Nat} (h : Inv g0 W s vl vo bo vs) (hg : W.grownBy W' row) (hr : ∀ r, row = some r → ∃ o : Obj, W.heap[r]? = some o ∧ o.isCells = false) : Inv g0 W' s vl vo bo vs :=
  ⟨box_own h.l hg hr, box_own h.o hg hr, box_own h.n hg hr, box_own h.g hg hr, ownsRow_own h.rows hg hr, h.recs.kept hg (fun k e => .inr fun cs fr hc => by obtain ⟨o, ho, hcc⟩ := hr k e; rw [hc] at ho; cases ho; cases hcc), Nat.le_trans h.hi hg.size, h.lo, ownsRow_own h.cur hg hr⟩
theorem Inv.alloc {g0 : Nat} {W : World} {s : St} {vl vo : Value} {bo : Nat} {vs : List Value} (h : Inv g0 W s vl vo bo vs) (o : Obj) : Inv g0 (W.alloc o) s vl vo bo vs := h.own (World.grownBy_alloc W o none) (fun r e => by cases e)

theorem Inv.drew {g0 : Nat} {W : World} {s : St} {vl vo : Value} {bo : Nat} {vs : List Value} (h : Inv g0 W s vl vo bo vs) : Inv g0 W.drew s vl vo bo vs := ⟨h.l, h.o, h.n, h.g, h.rows, ⟨h.recs.len, h.recs.rows⟩, h.hi, h.lo, h.cur⟩
theorem run_byts (ps : List Says) : ∀ s : St, (∀ x ∈ s.recs, Byts x) → Byts s.cur → (∀ p ∈ ps, Byts p.bytes) → (∀ x ∈ (s.run ps).recs, Byts x) ∧ Byts (s.run ps).cur := by
  induction ps with
  | nil => intro s h1 h2 _; exact ⟨h1, h2⟩
  | cons p ps ih =>
    intro s h1 h2 h3
    have hp := h3 p (by simp)
    show (∀ x ∈ ((s.step p).run ps).recs, Byts x) ∧ _
    refine ih (s.step p) ?_ ?_ (fun q hq => h3 q (by simp [hq]))
    · intro x hx
      unfold St.step at hx
      split at hx
      · rcases List.mem_append.1 hx with h | h
        · exact h1 x h
        · rw [List.mem_singleton.1 h]; exact h2.app hp
      · exact h1 x hx
    · unfold St.step
      split
      · exact byts_nil
      · exact h2.app hp
theorem parts_byts {w0 : World} (ps : List (Part w0)) : ∀ p ∈ ps.map (·.p), Byts p.bytes := by
  intro p hp
  simp at hp
  obtain ⟨q, _, rfl⟩ := hp
  exact q.ok.byts

theorem wpListIn_app {F : Fence} {n : Nat} {w : World} {ops : Array Oper} {rest : List Oper} {o : Oper} {a : Act} {Q : Exit → Act → World → Prop} (hF : ∀ f, F.fn f) (hg : o.guard = none) (s x : Operand) (ho : o.op = .call { callee := .builtin .append, args := #[s, x], argTypes := #[24, 24] })
    (base : Nat) (v : Value) (k : Nat) (l : List Int) (hs : a.eval s = v) (hown : w.ownsRow base 5 1 v k (l.map (Value.int .u8)))
    (ax : Option Addr) (len cap : Nat) (lx : List Int) (hx : a.eval x = .slice ax len cap) (hh : Has w ax len cap lx)
    (hb : k + len ≤ 4398046511104) (hbase : base ≤ w.heap.size)
    (h : ∀ v' w', w'.ownsRow base 5 1 v' (k + len) ((l ++ lx).map (Value.int .u8)) → w.grownBy w' v.ownBlock → wpListIn F n Tryd.prog ops Q rest (a.put o.dst v') w') : wpListIn F n Tryd.prog ops Q (o :: rest) a w := by
  refine wpListIn_plain hg fun K hK => ?_
  cases ax with
  | none =>
    have hc := hh.nil rfl
    have hl := hh.le
    subst hc
    obtain rfl : len = 0 := by omega
    obtain rfl : lx = [] := List.eq_nil_of_length_eq_zero hh.hlen
    obtain ⟨i0, hi, hz0, hz1, hz2⟩ := info_parts info5
    have hrun := run_append_owned_none (P := Tryd.prog) (w := w) base 24 o.type 5 i0 1 Tryd.underlying24 hi v k (l.map (Value.int .u8)) hown
    refine ⟨fun f _ => hF f, ?_⟩
    rw [Oper.semAt_plain F _ _ (by rw [ho]; intro c hc'; cases hc')]
    simp [execOp, ho, resolve, invoke, builtin, hs, hx, hrun, Result.andThen]
    exact hK _ _ (h v w (by simpa using hown) (World.grownBy.refl w _))
  | some ad => exact opIn_app hF s x ho base v k l hs hown ad len cap lx hx hh hb hbase (fun v' w' r1 r2 => hK _ _ (h v' w' r1 r2))
theorem run_seen (ps : List Says) : ∀ s : St, (s.run ps).seen = s.seen + ps.length := by
  induction ps with
  | nil => intro s; rfl
  | cons p ps ih =>
    intro s
    show ((s.step p).run ps).seen = _
    rw [ih]
    unfold St.step
    split <;> simp <;> omega

/-- The records, good and OK come out. -/
def Reads (w : World) (s : St) (e : Ending) (w' : World) : Prop := ∃ a cap, e = .returned (.tuple #[.slice a s.recs.length cap, .int .i64 (s.good : Int), .int .i64 0]) ∧ HasL w' a s.recs.length cap s.recs ∧ Below w.heap.size w w'

end Go.Proofs.YtbaclihlckfndaaDoor
