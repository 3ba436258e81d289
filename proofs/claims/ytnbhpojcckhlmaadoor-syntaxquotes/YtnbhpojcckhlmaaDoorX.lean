/-
  The iterator over all Res of a pattern: laws in a fence, lists of patterns, what is kept.
-/
import Derived.Test.YtnbhpojcckhlmaaDoorW
import Derived.RangeFuncNested
import Derived.RangeFuncBound
import Derived.RangeFuncCalls
import Derived.RangeFuncLeaves
import Derived.RangeFuncFrom
import Derived.RangeFuncWrites
import Derived.Shelf.Abstract
import Derived.Shelf.RegionOpen
import Derived.OwnWalkIn
import Derived.TacticsInMore
import Derived.LoopNIn
import Derived.LoopIn
namespace Go.Proofs.YtnbhpojcckhlmaaDoor
open Go.RowKit Go.Shelf
set_option linter.unusedVariables false
set_option linter.unusedSimpArgs false
attribute [local go_sem] Oper.semAt_some

section
variable {F : Fence} {n : Nat} {w w' : World} {ops : Array Oper} {rest : List Oper} {a : Act} {Q : Exit → Act → World → Prop} {dst : Option Nat} {x y : Operand} {ty : TypeId} {pos : String} {after : Array Edge}
theorem wlI_val {op : Op} {v : Value} (hF : ∀ f, F.fn f) (hd : ∀ c, op ≠ .defer c) (hrun : (execOp a.eval ⟨dst, op, ty, pos, after, none⟩).run Tryd.prog w = .ok (.value v) w') (h : wpListIn F n Tryd.prog ops Q rest (a.put dst v) w') : wpListIn F n Tryd.prog ops Q (⟨dst, op, ty, pos, after, none⟩ :: rest) a w := by
  refine wpListIn_plain rfl fun K hK => ?_
  unfold Oper.wpIn
  refine ⟨fun f _ => hF f, ?_⟩
  rw [Oper.semAt_plain F _ _ (fun c => hd c), hrun]
  exact hK _ _ h
theorem wlI_skip {op : Op} (hF : ∀ f, F.fn f) (hd : ∀ c, op ≠ .defer c) (hrun : (execOp a.eval ⟨none, op, ty, pos, after, none⟩).run Tryd.prog w = .ok .skip w') (h : wpListIn F n Tryd.prog ops Q rest a w') : wpListIn F n Tryd.prog ops Q (⟨none, op, ty, pos, after, none⟩ :: rest) a w := by
  refine wpListIn_plain rfl fun K hK => ?_
  unfold Oper.wpIn
  refine ⟨fun f _ => hF f, ?_⟩
  rw [Oper.semAt_plain F _ _ (fun c => hd c), hrun]
  exact hK _ _ h
theorem atI_load (t : TypeId) (h : wpListIn F n Tryd.prog ops Q (⟨dst, .load t x, ty, pos, after, none⟩ :: rest) a w) : wpListIn F n Tryd.prog ops Q (⟨dst, .load t x, ty, pos, after, none⟩ :: rest) a w := h
theorem atI_box (t : TypeId) (h : wpListIn F n Tryd.prog ops Q (⟨dst, .box t x, ty, pos, after, none⟩ :: rest) a w) : wpListIn F n Tryd.prog ops Q (⟨dst, .box t x, ty, pos, after, none⟩ :: rest) a w := h
theorem wlI_load (t : TypeId) {ad : Addr} {v : Value} (hF : ∀ f, F.fn f) (hx : a.eval x = .pointer (some ad)) (hl : (loadVar t ad).run Tryd.prog w = .ok v w) (k : wpListIn F n Tryd.prog ops Q rest (a.put dst v) w) : wpListIn F n Tryd.prog ops Q (⟨dst, .load t x, ty, pos, after, none⟩ :: rest) a w := by
  refine wlI_val hF (fun c => nofun) ?_ k
  unfold execOp
  simp only [hx, Instr.loadAt, Instr.sureAddr, Sem.run_bind, Sem.run_pure, Result.andThen_ok, hl]
theorem wlI_box28 (hF : ∀ f, F.fn f) {m : Int} {s : S4} {l : Value} {mn mx : Int} (hx : a.eval x = reV m s l mn mx) (h : ∀ g w', w'.heap[g]? = some (.cells (reA m s l mn mx) 28 (0, 0)) → Below w.heap.size w w' → w.heap.size ≤ g → wpListIn F n Tryd.prog ops Q rest (a.put dst (.pointer (some ⟨g, 0, none⟩))) w') : wpListIn F n Tryd.prog ops Q (⟨dst, .box 28 x, ty, pos, after, none⟩ :: rest) a w :=
  wlI_val hF (fun c => nofun) (run_box28 _ _ _ _ _ _ m s l mn mx hx w) (h _ _ (heap_alloc_new w _) ((Below.refl _ w).alloc (Nat.le_refl _) _) (Nat.le_refl _))
/-- A box is made and at once filled. -/
theorem atI_new28 {d : Nat} {ty2 : TypeId} {pos2 : String} {after2 : Array Edge} (h : wpListIn F n Tryd.prog ops Q (⟨some d, .alloc 28, ty, pos, after, none⟩ :: ⟨none, .store 28 (.tmp d) y, ty2, pos2, after2, none⟩ :: rest) a w) : wpListIn F n Tryd.prog ops Q (⟨some d, .alloc 28, ty, pos, after, none⟩ :: ⟨none, .store 28 (.tmp d) y, ty2, pos2, after2, none⟩ :: rest) a w := h
theorem wlI_new28 {d : Nat} {ty2 : TypeId} {pos2 : String} {after2 : Array Edge} (hF : ∀ f, F.fn f) {m : Int} {s : S4} {l : Value} {mn mx : Int} (hl : l.oneCell' = true) (hd : ∀ u, (a.put (some d) u).eval (.tmp d) = u) (hy : ∀ u, (a.put (some d) u).eval y = reV m s l mn mx) (h : ∀ g w', w'.heap[g]? = some (.cells (reA m s l mn mx) 28 (0, 0)) → Below w.heap.size w w' → w.heap.size ≤ g → wpListIn F n Tryd.prog ops Q rest (a.put (some d) (.pointer (some ⟨g, 0, none⟩))) w') : wpListIn F n Tryd.prog ops Q (⟨some d, .alloc 28, ty, pos, after, none⟩ :: ⟨none, .store 28 (.tmp d) y, ty2, pos2, after2, none⟩ :: rest) a w := by
  refine wlI_val hF (fun c => nofun) (run_alloc28 _ _ _ _ _ w) ?_
  have hg := heap_alloc_new w (.cells (reA 0 noSet (.slice none 0 0) 0 0) 28)
  have e := store28r hg (n' := m) (s' := s) (l' := l) (mn' := mn) (mx' := mx) hl
  refine wlI_skip (w' := (w.alloc (.cells (reA 0 noSet (.slice none 0 0) 0 0) 28)).setRow w.heap.size (reA m s l mn mx)) hF (fun c => nofun) ?_ (h _ _ (setRow_heap _ _ _ _ 28 (0, 0) hg) ?_ (Nat.le_refl _))
  · unfold execOp
    simp only [hd, hy, Instr.storeAt, Instr.sureAddr, Sem.run_bind, Sem.run_pure, Result.andThen_ok, e]
  · refine ⟨rfl, rfl, rfl, by simp, fun k hk => ?_⟩
    rw [setRow_other _ _ _ _ (by omega)]
    exact Below.heap_alloc _ _ _ hk
end
/-- What is a row of cells and not in S lies as it lay. -/
def Kc (S : Nat → Prop) (W W' : World) : Prop := W.heap.size ≤ W'.heap.size ∧ ∀ k cs t fr, ¬ S k → W.heap[k]? = some (.cells cs t fr) → W'.heap[k]? = some (.cells cs t fr)
theorem Kc.refl (S : Nat → Prop) (W : World) : Kc S W W := ⟨Nat.le_refl _, fun _ _ _ _ _ h => h⟩
theorem Kc.trans {S : Nat → Prop} {A B C : World} (h : Kc S A B) (k : Kc S B C) : Kc S A C := ⟨Nat.le_trans h.1 k.1, fun i cs t fr hn e => k.2 i cs t fr hn (h.2 i cs t fr hn e)⟩
theorem Kc.below {S : Nat → Prop} {W W' : World} {B : Nat} (h : Below B W W') (hB : W.heap.size ≤ B) : Kc S W W' := ⟨h.size, fun k cs t fr _ e => by rw [h.block k (by have := (Array.getElem?_eq_some_iff.1 e).1; omega)]; exact e⟩
theorem owns8_kc {S : Nat → Prop} {w w' : World} {base n : Nat} {v : Value} {xs : List Value} (h : w.ownsRow base 28 8 v n xs) (hk : Kc S w w') (hb : ∀ b, v.ownBlock = some b → ¬ S b) : w'.ownsRow base 28 8 v n xs := by
  refine ⟨h.1, ?_⟩
  rcases h.2 with h1 | ⟨g, cap, cur, rfl, h2, h3, h4⟩
  · exact .inl h1
  · exact .inr ⟨g, cap, cur, rfl, h2, hk.2 g _ _ _ (hb g rfl) h3, h4⟩
theorem Kd.kc {S : Nat → Prop} {w w' : World} (hk : Kc S w w') : ∀ {f : Fo} {xs : List Value}, Kd w (fun b => ¬ S b) f xs → Kd w' (fun b => ¬ S b) f xs
  | .nil, _, h => h
  | .cons n kids rest, xs, ⟨v, ys, zs, e, o, p, k1, k2⟩ => ⟨v, ys, zs, e, owns8_kc o hk p, p, Kd.kc hk k1, Kd.kc hk k2⟩
/-- The pattern i of a list. -/
def Fo.nth : Fo → Nat → Tr
  | .nil, _ => (⟨0, noSet, 0, 0⟩, .nil)
  | .cons n k _, 0 => (n, k)
  | .cons _ _ r, i + 1 => r.nth i
/-- How many Res the first i are. -/
def Fo.szTo (f : Fo) : Nat → Nat
  | 0 => 0
  | i + 1 => f.szTo i + szT (f.nth i)
theorem szTo_cons (n : Nd) (k r : Fo) : ∀ i, (Fo.cons n k r).szTo (i + 1) = szT (n, k) + r.szTo i
  | 0 => by simp [Fo.szTo, Fo.nth]
  | i + 1 => by rw [Fo.szTo, szTo_cons n k r i]; simp [Fo.szTo, Fo.nth]; omega
theorem szTo_len : ∀ f : Fo, f.szTo f.len = f.sz
  | .nil => rfl
  | .cons n k r => by rw [Fo.len, szTo_cons, szTo_len r]; simp [szT, Fo.sz]
theorem szTo_le (f : Fo) : ∀ i, i ≤ f.len → f.szTo i ≤ f.sz := by
  have mono : ∀ j i, f.szTo i ≤ f.szTo (i + j) := fun j => by
    induction j with
    | zero => intro i; exact Nat.le_refl _
    | succ j ih => intro i; have := ih i; show _ ≤ f.szTo (i + j) + _; omega
  intro i hi
  have := mono (f.len - i) i
  rw [show i + (f.len - i) = f.len by omega, szTo_len] at this
  exact this
/-- Each one of a list has the property, at its depth. -/
def AllF (Pr : Nat → Nd → Nat → Prop) : Nat → Fo → Prop
  | _, .nil => True
  | d, .cons n k r => Pr d n k.len ∧ AllF Pr (d + 1) k ∧ AllF Pr d r
theorem AllF.nth {Pr : Nat → Nd → Nat → Prop} {d : Nat} : ∀ {f : Fo}, AllF Pr d f → ∀ i, i < f.len → Pr d (f.nth i).1 (f.nth i).2.len ∧ AllF Pr (d + 1) (f.nth i).2
  | .nil, _, i, h => by simp [Fo.len] at h
  | .cons n k r, ⟨h1, h2, h3⟩, 0, _ => ⟨h1, h2⟩
  | .cons n k r, ⟨h1, h2, h3⟩, i + 1, h => AllF.nth h3 i (by simpa [Fo.len] using h)
theorem Kd.nth {w : World} {P : Nat → Prop} : ∀ {f : Fo} {xs : List Value}, Kd w P f xs → ∀ i, i < f.len → ∃ v zs, (∀ j u, (reA (f.nth i).1.k (f.nth i).1.s v (f.nth i).1.mn (f.nth i).1.mx)[j]? = some u → xs[i * 8 + j]? = some u) ∧ w.ownsRow 0 28 8 v (f.nth i).2.len zs ∧ (∀ b, v.ownBlock = some b → P b) ∧ Kd w P (f.nth i).2 zs
  | .nil, _, _, i, h => by simp [Fo.len] at h
  | .cons n k r, xs, ⟨v, ys, zs, e, o, p, k1, k2⟩, 0, _ => ⟨v, zs, fun j u hj => by
      rw [e, Nat.zero_mul, Nat.zero_add]
      have hj' : j < 8 := by
        have := (Array.getElem?_eq_some_iff.1 hj).1
        simpa [reA] using this
      rw [List.getElem?_append_left (by simp [reA]; exact hj')]
      simpa [Fo.nth] using hj, o, p, k1⟩
  | .cons n k r, xs, ⟨v, ys, zs, e, o, p, k1, k2⟩, i + 1, h => by
      obtain ⟨v', zs', h1, h2⟩ := Kd.nth k2 i (by simpa [Fo.len] using h)
      refine ⟨v', zs', fun j u hj => ?_, h2⟩
      rw [e, List.getElem?_append_right (by simp [reA]; omega)]
      have := h1 j u hj
      simp only [reA, List.length_cons, List.length_nil]
      rw [show (i + 1) * 8 + j - (0 + 1 + 1 + 1 + 1 + 1 + 1 + 1 + 1) = i * 8 + j by omega]
      exact this
/-- One that is handed out: how deep it stands, itself, its list's value. -/
structure Em (Pr : Nat → Nd → Nat → Prop) where
  d : Nat
  nd : Nd
  ad : Option Addr
  len : Nat
  cap : Nat
  h : Pr d nd len
def encE {Pr : Nat → Nd → Nat → Prop} (e : Em Pr) : Array Value := #[.int .i64 (e.d : Int), reV e.nd.k e.nd.s (.slice e.ad e.len e.cap) e.nd.mn e.nd.mx]
theorem below_grown {w w' : World} (hb : Below w.heap.size w w') : w.grownBy w' none := ⟨hb.os, hb.tape, hb.output, hb.size, fun k hk _ => hb.block k hk⟩
theorem abides_below {β : Type} {B : Nat} {J : β → World → Prop} (h : AbidesFrom B J) {s : β} {w w' : World} (hs : J s w) (hb : Below w.heap.size w w') : J s w' := h s w w' none hs (below_grown hb) (fun r e => by cases e)
theorem yield_wide {m m' : Nat} {l : Nat} {args : Array Value} {W : World} {R : Ending → World → Prop} (h : YieldAt Fence.wide m Tryd.prog l args W R) : YieldAt Fence.wide m' Tryd.prog l args W R := by
  obtain ⟨fn, tmps, assign, body, h1, h2, h3⟩ := h
  exact ⟨fn, tmps, assign, body, h1, h2, fun c cs _ => h3 c cs (room_wide _)⟩
end Go.Proofs.YtnbhpojcckhlmaaDoor
