/-
  Laws inside a fence for sectors and rows of bytes; the walk of Write, where nothing is refused.
-/
import Derived.Test.YtbaclihlckfndaaDoorN
import Derived.RangeFuncBox
namespace Go.Proofs.YtbaclihlckfndaaDoor
open Go.RowKit Go.Shelf
set_option linter.unusedVariables false
attribute [local go_sem] Oper.semAt_some

def secs (ps : List Says) : List Int := (ps.map Says.sec).flatten
theorem secs_snoc (ps : List Says) (p : Says) : secs (ps ++ [p]) = secs ps ++ p.sec := by simp [secs]
theorem secs_byts {w0 : World} (ps : List (Part w0)) : Byts (secs (ps.map (·.p))) := by
  intro x hx
  simp [secs] at hx
  obtain ⟨l, ⟨q, hq, rfl⟩, hx⟩ := hx
  exact q.ok.sbyts x hx
theorem secs_len {w0 : World} (ps : List (Part w0)) : (secs (ps.map (·.p))).length = 256 * ps.length := by
  induction ps with
  | nil => rfl
  | cons q ps ih =>
    have := q.ok.slen
    simp only [List.map_cons, secs, List.flatten_cons, List.length_append, List.length_cons] at ih ⊢
    rw [this, ih]; omega

section
variable {F : Fence} {n : Nat} {w : World} {ops : Array Oper} {rest : List Oper} {o : Oper} {a : Act} {Q : Exit → Act → World → Prop} {K : Act → World → Prop}
theorem opIn_of_run {v : Value} {w' : World} (hd : ∀ c, o.op ≠ .defer c) (hab : ∀ f, o.about Tryd.prog w a.eval = some f → F.fn f) (hrun : (execOp a.eval o).run Tryd.prog w = .ok (.value v) w') (hK : K (a.put o.dst v) w') : Oper.wpIn F n Tryd.prog o a w K Q :=
  ⟨hab, by rw [Oper.semAt_plain F _ _ hd, hrun]; exact hK⟩
theorem wpListIn_alloc55 (hF : ∀ f, F.fn f) (hg : o.guard = none) (ho : o.op = .alloc 55)
    (h : ∀ w', Sec w' w.heap.size zeros → w'.heap.size = w.heap.size + 1 → w.grownBy w' none → wpListIn F n Tryd.prog ops Q rest (a.put o.dst (.pointer (some ⟨w.heap.size, 0, none⟩))) w') : wpListIn F n Tryd.prog ops Q (o :: rest) a w := by
  refine wpListIn_plain hg fun K hK => ?_
  have hrun : (execOp a.eval o).run Tryd.prog w = .ok (.value (.pointer (some ⟨w.heap.size, 0, none⟩))) (w.alloc (.cells (zeros.map (Value.int .u8)).toArray 55)) := by
    unfold execOp
    rw [ho]
    kernel_rfl
  exact opIn_of_run (by rw [ho]; intro c hc; cases hc) (fun f _ => hF f) hrun (hK _ _ (h _ (sec_zeros w) (by simp) (World.grownBy_alloc w _ none)))
theorem wpListIn_store55 (hF : ∀ f, F.fn f) (hg : o.guard = none) (x y : Operand) (ho : o.op = .store 55 x y) (g : Nat) (L L' : List Int) (hx : a.eval x = .pointer (some ⟨g, 0, none⟩)) (hy : a.eval y = aval L') (hl : L'.length = 256) (hb : Byts L')
    (hA : Sec w g L)
    (h : ∀ w', w'.heap.size = w.heap.size → Sec w' g L' → w.grownBy w' (some g) → wpListIn F n Tryd.prog ops Q rest (a.put o.dst undef) w') : wpListIn F n Tryd.prog ops Q (o :: rest) a w := by
  refine wpListIn_plain hg fun K hK => ?_
  refine ⟨fun f _ => hF f, ?_⟩
  rw [Oper.semAt_plain F _ _ (by rw [ho]; intro c hc; cases hc)]
  unfold execOp
  simp only [ho, hx, hy, aval, Instr.storeAt, Instr.sureAddr, Sem.run_bind, Sem.run_pure, Result.andThen_ok, run_storeVar_row w g 55 55 _ (L'.map (Value.int .u8)).toArray hA.row (by rw [aval_size hl]; exact info55) (by rw [aval_size hA.len, aval_size hl]) (aval_one _)]
  exact hK _ _ (h _ (size_setRow _ _ _) (hA.setRow hl hb) ⟨rfl, rfl, rfl, by simp, fun k _ hk => setRow_other w g k _ (fun e => hk (by simp [e]))⟩)
/-- append of bytes that lie in memory to a row of one's own, as one operation. -/
theorem opIn_app (hF : ∀ f, F.fn f) (s x : Operand) (ho : o.op = .call { callee := .builtin .append, args := #[s, x], argTypes := #[24, 24] })
    (base : Nat) (v : Value) (k : Nat) (l : List Int) (hs : a.eval s = v) (hown : w.ownsRow base 5 1 v k (l.map (Value.int .u8)))
    (ad : Addr) (len cap : Nat) (lx : List Int) (hx : a.eval x = .slice (some ad) len cap) (hh : Has w (some ad) len cap lx)
    (hb : k + len ≤ 4398046511104) (hbase : base ≤ w.heap.size)
    (h : ∀ v' w', w'.ownsRow base 5 1 v' (k + len) ((l ++ lx).map (Value.int .u8)) → w.grownBy w' v.ownBlock → K (a.put o.dst v') w') : Oper.wpIn F n Tryd.prog o a w K Q := by
  obtain ⟨i0, hi, hz0, hz1, hz2⟩ := info_parts info5
  obtain ⟨v', w', hrun, r1, r2, r3⟩ := run_append_own (P := Tryd.prog) w base 24 o.type 5 i0 (.int .u8 0) 1 1 Tryd.underlying24 hi hz0 hz1 hz2 rfl (by decide) v k (l.map (Value.int .u8)) hown ad len cap (lx.map (Value.int .u8)) (by simp [hh.hlen])
    (fun j u hj => by
      by_cases hp : 0 < len
      · obtain ⟨b, off, e1, e2, e3⟩ := cells_of_has hh hp
        cases e1
        exact e3 j u hj
      · obtain rfl : lx = [] := List.eq_nil_of_length_eq_zero (by have := hh.hlen; omega)
        simp at hj) (ints_oneCell _ _) (by unfold maxLen; omega) (by omega) hbase
  refine ⟨fun f _ => hF f, ?_⟩
  rw [Oper.semAt_plain F _ _ (by rw [ho]; intro c hc'; cases hc')]
  simp [execOp, ho, resolve, invoke, builtin, hs, hx, hrun, Result.andThen]
  exact h v' w' (by simpa using r1) r2
end

theorem box_own {W W' : World} {B : Nat} {t : TypeId} {cs : Array Value} {row : Option Nat} (h : W.heap[B]? = some (.cells cs t (0, 0))) (hg : W.grownBy W' row) (hr : ∀ r, row = some r → ∃ o : Obj, W.heap[r]? = some o ∧ o.isCells = false) : W'.heap[B]? = some (.cells cs t (0, 0)) := by
  refine (hg.block B (Array.getElem?_eq_some_iff.1 h).1 (fun e => ?_)).trans h
  obtain ⟨o, ho, hc⟩ := hr B e.symm
  rw [h] at ho; cases ho; cases hc
end Go.Proofs.YtbaclihlckfndaaDoor
