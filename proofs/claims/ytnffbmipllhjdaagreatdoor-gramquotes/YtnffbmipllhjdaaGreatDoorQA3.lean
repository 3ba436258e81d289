/-
  What GramQuotes stands on, part 3 (of: CA CB CH CK Z AA SC NA SK SL SA SM Ye Yd Yf Yg Yh Yi Yj Yk Yl Ym Yn Yo Yq Yp Yr Ys Yt Yu).
-/
import Derived.Test.YtnffbmipllhjdaaGreatDoorQA2
import Derived.Laws.CopyRow
import Derived.Laws.MakeOwn
import Derived.Shelf.Lay
import Derived.Shelf.Bits.Mul64
import Derived.Maps.AppendAt
import Derived.Laws.StructEq
import Derived.ChangeKeysEq
import Derived.BigQuiet
import Derived.Deep.MidRow
import Derived.Deep.AppendSrc
import Derived.RangeFuncNested
import Derived.Sort.EncStr
import Derived.Maps.OwnIn
import Derived.Shelf.Pu.Clone
import Derived.Shelf.SortM.Plain
import Derived.Shelf.SortM.SortNone
import Derived.Ground.SlgmProg
import Derived.Shelf.Abstract
import Derived.Sort.OwnSorted
namespace Go.Proofs.YtnffbmipllhjdaaGreatDoor
open Go.RowKit
set_option linter.unusedVariables false
set_option linter.unusedSimpArgs false

section
variable {S : Nat → Prop} {w0 w w' : World} {L : List Ent} {ops : Array Oper} {rest : List Oper} {a : Act} {Q : Exit → Act → World → Prop} {x y : Operand} {ty ty2 : TypeId} {pos pos2 : String} {after after2 : Array Edge}
end
/-- A function with a body. -/
def Clo (n : Nat) : Prop := ∀ args w, (callFunc n args).run Tryz.prog w = .ok (.enter n args) w
section
variable {S : Nat → Prop} {w0 w w' : World} {L : List Ent} {ops : Array Oper} {rest : List Oper} {a : Act} {Q : Exit → Act → World → Prop} {dst : Option Nat} {x y : Operand} {ty : TypeId} {pos : String} {after : Array Edge}
theorem at_clo {n : Nat} {ps : Array Operand} {ts : Array TypeId} (h : wpList Tryz.prog ops Q (⟨dst, .call { callee := .value (.tmp n), args := ps, argTypes := ts }, ty, pos, after, none⟩ :: rest) a w) : wpList Tryz.prog ops Q (⟨dst, .call { callee := .value (.tmp n), args := ps, argTypes := ts }, ty, pos, after, none⟩ :: rest) a w := h
/-- A closure is called. -/
theorem wl_clo {ps : Array Operand} {ts : Array TypeId} {k : Nat} {caps xs : Array Value} (hx : a.eval x = .func (.func k) #[] caps) (hp : ps.map a.eval = xs) (hc : Clo k) (h : Calls Tryz.prog k (xs ++ caps) w fun e w' => ∃ u, e = .returned u ∧ wpList Tryz.prog ops Q rest (a.put dst u) w') : wpList Tryz.prog ops Q (⟨dst, .call { callee := .value x, args := ps, argTypes := ts }, ty, pos, after, none⟩ :: rest) a w := by
  refine wpList_plain rfl fun K hK => ?_
  unfold Oper.wp
  have e : (execOp a.eval ⟨dst, .call { callee := .value x, args := ps, argTypes := ts }, ty, pos, after, none⟩).run Tryz.prog w = .ok (.enter k (xs ++ caps)) w := by
    simp [execOp, resolve, invoke, Deferred.ofValue, hx, hp, hc (xs ++ caps) w]
  rw [e]
  refine h.mono ?_
  rintro e w' ⟨u, rfl, hw⟩
  exact hK _ _ hw
theorem wl_clo1 {p : Operand} {ts : Array TypeId} {k : Nat} {caps : Array Value} {u1 : Value} (hx : a.eval x = .func (.func k) #[] caps) (hp : a.eval p = u1) (hc : Clo k) (h : Calls Tryz.prog k (#[u1] ++ caps) w fun e w' => ∃ u, e = .returned u ∧ wpList Tryz.prog ops Q rest (a.put dst u) w') : wpList Tryz.prog ops Q (⟨dst, .call { callee := .value x, args := #[p], argTypes := ts }, ty, pos, after, none⟩ :: rest) a w :=
  wl_clo hx (by simp [hp]) hc h
end
end Go.Proofs.YtnffbmipllhjdaaGreatDoor

namespace Go.Proofs.YtnffbmipllhjdaaGreatDoor
open Go.RowKit
set_option linter.unusedVariables false
set_option linter.unusedSimpArgs false

section
variable {S : Nat → Prop} {w0 w w' : World} {L : List Ent} {ops : Array Oper} {rest : List Oper} {a : Act} {Q : Exit → Act → World → Prop} {dst : Option Nat} {x y z : Operand} {ty : TypeId} {pos : String} {after : Array Edge}
theorem wl_val {op : Op} {v : Value} (hrun : (execOp a.eval ⟨dst, op, ty, pos, after, none⟩).run Tryz.prog w = .ok (.value v) w') (h : wpList Tryz.prog ops Q rest (a.put dst v) w') : wpList Tryz.prog ops Q (⟨dst, op, ty, pos, after, none⟩ :: rest) a w := by
  refine wpList_plain rfl fun K hK => ?_
  unfold Oper.wp
  rw [hrun]
  exact hK _ _ h
end
section
variable {w w' : World} {ops : Array Oper} {o : Oper} {a : Act} {Q : Exit → Act → World → Prop} {K : Act → World → Prop} {E : Prop} {x : Operand}
end
end Go.Proofs.YtnffbmipllhjdaaGreatDoor

namespace Go.Proofs.YtnffbmipllhjdaaGreatDoor
open Go.RowKit Go.Shelf Go.Lib
set_option linter.unusedVariables false
set_option linter.unusedSimpArgs false

shelf_lay Lays.n212 Nm 212 at Tryz as Tryz.laysMU
theorem mul_any (x y : Nat) (hx : x < 18446744073709551616) (hy : y < 18446744073709551616) (w : World) : Calls Tryz.prog 187 #[.int .u64 x, .int .u64 y] w fun e w' => e = .returned (.tuple #[.int .u64 ((x * y / 18446744073709551616 : Nat) : Int), .int .u64 ((x * y % 18446744073709551616 : Nat) : Int)]) ∧ w' = w :=
  Any.bits_Mul Tryz.laysMU x y hx hy w
section
variable {S : Nat → Prop} {w0 w w' : World} {L : List Ent} {ops : Array Oper} {rest : List Oper} {o : Oper} {a : Act} {Q : Exit → Act → World → Prop} {K : Act → World → Prop} {E : Prop} {dst : Option Nat} {x y : Operand} {ty : TypeId} {pos : String} {after : Array Edge}
end
end Go.Proofs.YtnffbmipllhjdaaGreatDoor

namespace Go.Proofs.YtnffbmipllhjdaaGreatDoor
open Go.RowKit
set_option linter.unusedVariables false
set_option linter.unusedSimpArgs false

theorem fit_nth : ∀ (f : Fo) (k : Nat), k < f.len → f.fit → fitT (f.nth k)
  | .nil, k, h, _ => by simp [Fo.len] at h
  | .cons n kk r, 0, _, h => ⟨h.1, h.2.1⟩
  | .cons n kk r, k + 1, h, hf => fit_nth r k (by simpa [Fo.len] using h) hf.2.2
theorem sz_nth (f : Fo) (k : Nat) (h : k < f.len) : szT (f.nth k) ≤ f.sz := by
  have h1 := szTo_le f (k + 1) (by omega)
  have h2 : f.szTo (k + 1) = f.szTo k + szT (f.nth k) := rfl
  omega
theorem load25r {w : World} {g : Nat} {k : Int} {s : S4} {v : Value} {mn mx : Int} (h : w.heap[g]? = some (.cells (reA k s v mn mx) 27 (0, 0))) : (loadVar 24 ⟨g, 1, none⟩).run Tryz.prog w = .ok (setV s) w := by
  refine load25c (fun q hq => ?_)
  rw [cell_of_row w g (1 + q) _ 27 (0, 0) h]
  rcases (show q = 0 ∨ q = 1 ∨ q = 2 ∨ q = 3 by omega) with rfl | rfl | rfl | rfl <;> rfl
section
variable {S : Nat → Prop} {w0 w w' : World} {L : List Ent} {ops : Array Oper} {rest : List Oper} {o : Oper} {a : Act} {Q : Exit → Act → World → Prop} {K : Act → World → Prop} {E : Prop} {dst : Option Nat} {x y : Operand} {ty ty2 : TypeId} {pos pos2 : String} {after after2 : Array Edge}
theorem wp_storeT (t : TypeId) (ho : o.op = .store t x y) {ad : Addr} {v : Value} (hx : a.eval x = .pointer (some ad)) (hy : a.eval y = v) (hst : (storeVar t ad v).run Tryz.prog w = .ok () w') (h : K (a.put o.dst undef) w') : o.wp Tryz.prog a w K Q := by
  unfold Oper.wp execOp
  simp only [ho, hx, hy, Instr.storeAt, Instr.sureAddr, Sem.run_bind, Sem.run_pure, Result.andThen_ok, hst]
  exact h
theorem wl_storeT (t : TypeId) {ad : Addr} {v : Value} (hx : a.eval x = .pointer (some ad)) (hy : a.eval y = v) (hst : (storeVar t ad v).run Tryz.prog w = .ok () w') (h : wpList Tryz.prog ops Q rest a w') : wpList Tryz.prog ops Q (⟨none, .store t x y, ty, pos, after, none⟩ :: rest) a w := by
  refine wpList_plain rfl fun K hK => ?_
  exact wp_storeT t rfl hx hy hst (hK _ _ h)
end
end Go.Proofs.YtnffbmipllhjdaaGreatDoor

namespace Go.Proofs.YtnffbmipllhjdaaGreatDoor
open Go.RowKit Go.Shelf
set_option linter.unusedVariables false
set_option linter.unusedSimpArgs false

theorem neq25 (w : World) : (binOp .neq 24 (.agg #[.int .u64 0, .int .u64 0, .int .u64 0, .int .u64 0]) (.agg #[.int .u64 0, .int .u64 0, .int .u64 0, .int .u64 0])).run Tryz.prog w = .ok (.bool false) w := by kernel_rfl
theorem guard25 : Tryz.prog.eqGuardType Tryz.prog.depth 24 = false := by kernel_rfl
set_option maxHeartbeats 4000000 in
theorem fit_1 (s : S4) (a : Option Addr) (c : Nat) (w : World) : Calls Tryz.prog 129 #[reV 1 s (.slice a 0 c) 0 0] w fun e w' => e = .returned (.bool true) ∧ Below w.heap.size w w' := by
  have H := St.start Nope w
  have kn := fun w => neq25 w
  have kg := guard25
  go_enter Tryz.func129, Tryz.ntmps129
  go_wp2_with (first | ((with_reducible refine at_box 27 ?_); refine wl_box28 H rfl ?_; clear H; intro g w' H q1 q2; have c0 := H.cell 0 0 rfl (v := .int .i64 (1)) rfl; have c1 := H.cell 0 1 rfl (v := .int .u64 (s).a) rfl; have c2 := H.cell 0 2 rfl (v := .int .u64 (s).b) rfl; have c3 := H.cell 0 3 rfl (v := .int .u64 (s).c) rfl; have c4 := H.cell 0 4 rfl (v := .int .u64 (s).d) rfl; have c5 := H.cell 0 5 rfl (v := .slice a 0 c) rfl; have c6 := H.cell 0 6 rfl (v := .int .i64 (0)) rfl; have c7 := H.cell 0 7 rfl (v := .int .i64 (0)) rfl; try simp only [noSet] at c1 c2 c3 c4))
  go_ret
  exact ⟨rfl, H.below⟩
set_option maxHeartbeats 4000000 in
theorem fit_2 (a : Option Addr) (n c : Nat) (w : World) : Calls Tryz.prog 129 #[reV 2 noSet (.slice a n c) 0 0] w fun e w' => e = .returned (.bool true) ∧ Below w.heap.size w w' := by
  have H := St.start Nope w
  have kn := fun w => neq25 w
  have kg := guard25
  go_enter Tryz.func129, Tryz.ntmps129
  go_wp2_with (first | ((with_reducible refine at_box 27 ?_); refine wl_box28 H rfl ?_; clear H; intro g w' H q1 q2; have c0 := H.cell 0 0 rfl (v := .int .i64 (2)) rfl; have c1 := H.cell 0 1 rfl (v := .int .u64 (noSet).a) rfl; have c2 := H.cell 0 2 rfl (v := .int .u64 (noSet).b) rfl; have c3 := H.cell 0 3 rfl (v := .int .u64 (noSet).c) rfl; have c4 := H.cell 0 4 rfl (v := .int .u64 (noSet).d) rfl; have c5 := H.cell 0 5 rfl (v := .slice a n c) rfl; have c6 := H.cell 0 6 rfl (v := .int .i64 (0)) rfl; have c7 := H.cell 0 7 rfl (v := .int .i64 (0)) rfl; try simp only [noSet] at c1 c2 c3 c4))
  go_ret
  exact ⟨rfl, H.below⟩
set_option maxHeartbeats 4000000 in
theorem fit_3 (a : Option Addr) (n c : Nat) (w : World) : Calls Tryz.prog 129 #[reV 3 noSet (.slice a n c) 0 0] w fun e w' => e = .returned (.bool true) ∧ Below w.heap.size w w' := by
  have H := St.start Nope w
  have kn := fun w => neq25 w
  have kg := guard25
  go_enter Tryz.func129, Tryz.ntmps129
  go_wp2_with (first | ((with_reducible refine at_box 27 ?_); refine wl_box28 H rfl ?_; clear H; intro g w' H q1 q2; have c0 := H.cell 0 0 rfl (v := .int .i64 (3)) rfl; have c1 := H.cell 0 1 rfl (v := .int .u64 (noSet).a) rfl; have c2 := H.cell 0 2 rfl (v := .int .u64 (noSet).b) rfl; have c3 := H.cell 0 3 rfl (v := .int .u64 (noSet).c) rfl; have c4 := H.cell 0 4 rfl (v := .int .u64 (noSet).d) rfl; have c5 := H.cell 0 5 rfl (v := .slice a n c) rfl; have c6 := H.cell 0 6 rfl (v := .int .i64 (0)) rfl; have c7 := H.cell 0 7 rfl (v := .int .i64 (0)) rfl; try simp only [noSet] at c1 c2 c3 c4))
  go_ret
  exact ⟨rfl, H.below⟩
set_option maxHeartbeats 4000000 in
theorem fit_4 (a : Option Addr) (c : Nat) (mn mx : Int) (h : arT mn mx = true) (w : World) : Calls Tryz.prog 129 #[reV 4 noSet (.slice a 1 c) mn mx] w fun e w' => e = .returned (.bool true) ∧ Below w.heap.size w w' := by
  have H := St.start Nope w
  have kn := fun w => neq25 w
  have kg := guard25
  go_enter Tryz.func129, Tryz.ntmps129
  go_wp2_with (first | ((with_reducible refine at_box 27 ?_); refine wl_box28 H rfl ?_; clear H; intro g w' H q1 q2; have c0 := H.cell 0 0 rfl (v := .int .i64 (4)) rfl; have c1 := H.cell 0 1 rfl (v := .int .u64 (noSet).a) rfl; have c2 := H.cell 0 2 rfl (v := .int .u64 (noSet).b) rfl; have c3 := H.cell 0 3 rfl (v := .int .u64 (noSet).c) rfl; have c4 := H.cell 0 4 rfl (v := .int .u64 (noSet).d) rfl; have c5 := H.cell 0 5 rfl (v := .slice a 1 c) rfl; have c6 := H.cell 0 6 rfl (v := .int .i64 (mn)) rfl; have c7 := H.cell 0 7 rfl (v := .int .i64 (mx)) rfl; try simp only [noSet] at c1 c2 c3 c4))
  refine (areTimes_any mn mx _).mono ?_
  rintro e w1 ⟨rfl, rfl⟩
  rw [h]
  go_wp2_with fail
  go_ret
  exact ⟨rfl, H.below⟩
theorem isFit_any (n : Nd) (a : Option Addr) (len c : Nat) (h : fitN n len) (w : World) : Calls Tryz.prog 129 #[reV n.k n.s (.slice a len c) n.mn n.mx] w fun e w' => e = .returned (.bool true) ∧ Below w.heap.size w w' := by
  obtain ⟨h1, h2, h3, h4⟩ := h
  obtain ⟨k, s, mn, mx⟩ := n
  simp only at *
  rcases h4 with ⟨rfl, rfl⟩ | rfl | rfl | rfl
  · obtain ⟨rfl, rfl⟩ := h3 (by decide)
    exact fit_1 s a c w
  · obtain ⟨rfl, rfl⟩ := h3 (by decide)
    obtain rfl := h1 (by decide)
    exact fit_2 a len c w
  · obtain ⟨rfl, rfl⟩ := h3 (by decide)
    obtain rfl := h1 (by decide)
    exact fit_3 a len c w
  · obtain rfl := h1 (by decide)
    obtain ⟨rfl, ha⟩ := h2 rfl
    exact fit_4 a c mn mx ha w
end Go.Proofs.YtnffbmipllhjdaaGreatDoor

namespace Go.Proofs.YtnffbmipllhjdaaGreatDoor
open Go.RowKit Go.Shelf
set_option linter.unusedVariables false
set_option linter.unusedSimpArgs false
attribute [local go_sem] Oper.semAt_some

section
variable {F : Fence} {n : Nat} {w w' : World} {ops : Array Oper} {rest : List Oper} {a : Act} {Q : Exit → Act → World → Prop} {dst : Option Nat} {x y : Operand} {ty : TypeId} {pos : String} {after : Array Edge}
theorem wlI_alloc3 (hF : ∀ f, F.fn f) (h : ∀ g w', w'.heap[g]? = some (.cells #[.int .i64 0] 3 (0, 0)) → Below w.heap.size w w' → w.heap.size ≤ g → wpListIn F n Tryz.prog ops Q rest (a.put dst (.pointer (some ⟨g, 0, none⟩))) w') : wpListIn F n Tryz.prog ops Q (⟨dst, .alloc 3, ty, pos, after, none⟩ :: rest) a w :=
  wlI_val hF (fun c => nofun) (run_alloc3 w) (h _ _ (heap_alloc_new w _) ((Below.refl _ w).alloc (Nat.le_refl _) _) (Nat.le_refl _))
theorem run_st3 {w : World} {g : Nat} {u : Value} {v : Int} (h : w.heap[g]? = some (.cells #[u] 3 (0, 0))) : (storeVar 3 ⟨g, 0, none⟩ (.int .i64 v)).run Tryz.prog w = .ok () (w.setCell ⟨g, 0, none⟩ (.int .i64 v)) := by
  have hc := cell_row h 0 (v := u) rfl
  have hf := frozen_of_row w g 0 _ 3 h
  have e : (storeCells ⟨g, 0, none⟩ [.int .i64 v]).run Tryz.prog w = .ok () (w.setCell ⟨g, 0, none⟩ (.int .i64 v)) := by simp [storeCells, go_sem, stored, hc, hf]
  have e4 : (Value.int .i64 v).cells = #[.int .i64 v] := rfl
  unfold storeVar
  simp only [Sem.run_bind, one3, Result.andThen_ok, e4]
  simpa using e
theorem wlI_st3 (hF : ∀ f, F.fn f) {g : Nat} {u : Value} {v : Int} (hg : w.heap[g]? = some (.cells #[u] 3 (0, 0))) (hx : a.eval x = .pointer (some ⟨g, 0, none⟩)) (hy : a.eval y = .int .i64 v) (h : ∀ w', w'.heap[g]? = some (.cells #[.int .i64 v] 3 (0, 0)) → But (fun k => k = g) w w' → wpListIn F n Tryz.prog ops Q rest a w') : wpListIn F n Tryz.prog ops Q (⟨none, .store 3 x y, ty, pos, after, none⟩ :: rest) a w := by
  refine wlI_skip (w' := w.setCell ⟨g, 0, none⟩ (.int .i64 v)) hF (fun c => nofun) ?_ (h _ ?_ ?_)
  · unfold execOp
    simp only [hx, hy, Instr.storeAt, Instr.sureAddr, Sem.run_bind, Sem.run_pure, Result.andThen_ok, run_st3 hg]
  · exact heap_setCell_same w g 0 _ 3 _ hg
  · exact ⟨rfl, rfl, rfl, by simp [World.setCell], fun k hk hn => Below.heap_setCell w ⟨g, 0, none⟩ _ k hn⟩
/-- A guarded load whose guard holds. -/
theorem wlI_loadG (t : TypeId) {gd : Nat × Bool} {ad : Addr} {v : Value} (hF : ∀ f, F.fn f) (hw : Region.wanted ⟨dst, .load t x, ty, pos, after, some gd⟩ (yielded ops a.tmps) = true) (hx : a.eval x = .pointer (some ad)) (hl : (loadVar t ad).run Tryz.prog w = .ok v w) (k : wpListIn F n Tryz.prog ops Q rest (a.put dst v) w) : wpListIn F n Tryz.prog ops Q (⟨dst, .load t x, ty, pos, after, some gd⟩ :: rest) a w := by
  refine wpListIn_step fun K hK => ?_
  rw [if_pos hw]
  unfold Oper.wpIn
  refine ⟨fun f _ => hF f, ?_⟩
  rw [Oper.semAt_plain F _ _ (by intro c hc'; cases hc')]
  unfold execOp
  simp only [hx, Instr.loadAt, Instr.sureAddr, Sem.run_bind, Sem.run_pure, Result.andThen_ok, hl]
  exact hK _ _ k
variable {S : Nat → Prop} {w0 : World} {L : List Ent}
theorem wlS_box28 (hF : ∀ f, F.fn f) (H : St S w0 w L) {m : Int} {s : S4} {l : Value} {mn mx : Int} (hx : a.eval x = reV m s l mn mx) (h : ∀ g w', St S w0 w' ((true, g, 27, reA m s l mn mx) :: L) → w0.heap.size ≤ g → wpListIn F n Tryz.prog ops Q rest (a.put dst (.pointer (some ⟨g, 0, none⟩))) w') : wpListIn F n Tryz.prog ops Q (⟨dst, .box 27 x, ty, pos, after, none⟩ :: rest) a w :=
  wlI_val hF (fun c => nofun) (run_box28 _ _ _ _ _ _ m s l mn mx hx w) (h _ _ (H.alloc 27 _) H.but.size)
theorem wlS_alloc3 (hF : ∀ f, F.fn f) (H : St S w0 w L) (h : ∀ g w', St S w0 w' ((true, g, 3, #[.int .i64 0]) :: L) → w0.heap.size ≤ g → wpListIn F n Tryz.prog ops Q rest (a.put dst (.pointer (some ⟨g, 0, none⟩))) w') : wpListIn F n Tryz.prog ops Q (⟨dst, .alloc 3, ty, pos, after, none⟩ :: rest) a w :=
  wlI_val hF (fun c => nofun) (run_alloc3 w) (h _ _ (H.alloc 3 _) H.but.size)
theorem wlS_st3 (i : Nat) (hF : ∀ f, F.fn f) (H : St S w0 w L) {g : Nat} {u : Value} {v : Int} (h : L[i]? = some (true, g, 3, #[u])) (hx : a.eval x = .pointer (some ⟨g, 0, none⟩)) (hy : a.eval y = .int .i64 v) (k : ∀ w', St S w0 w' (L.set i (true, g, 3, #[.int .i64 v])) → wpListIn F n Tryz.prog ops Q rest a w') : wpListIn F n Tryz.prog ops Q (⟨none, .store 3 x y, ty, pos, after, none⟩ :: rest) a w := by
  refine wlI_skip (w' := w.setCell ⟨g, 0, none⟩ (.int .i64 v)) hF (fun c => nofun) ?_ (k _ (H.setCell i h 0 _))
  unfold execOp
  simp only [hx, hy, Instr.storeAt, Instr.sureAddr, Sem.run_bind, Sem.run_pure, Result.andThen_ok, run_st3 (H.get i h)]
theorem wlS_load28 (i : Nat) (hF : ∀ f, F.fn f) (H : St S w0 w L) {b : Bool} {g : Nat} {m : Int} {s : S4} {l : Value} {mn mx : Int} (h : L[i]? = some (b, g, 27, reA m s l mn mx)) (hx : a.eval x = .pointer (some ⟨g, 0, none⟩)) (k : wpListIn F n Tryz.prog ops Q rest (a.put dst (reV m s l mn mx)) w) : wpListIn F n Tryz.prog ops Q (⟨dst, .load 27 x, ty, pos, after, none⟩ :: rest) a w := wlI_load 27 hF hx (load28 (H.get i h)) k
theorem atI_loadG (t : TypeId) {gd : Nat × Bool} (h : wpListIn F n Tryz.prog ops Q (⟨dst, .load t x, ty, pos, after, some gd⟩ :: rest) a w) : wpListIn F n Tryz.prog ops Q (⟨dst, .load t x, ty, pos, after, some gd⟩ :: rest) a w := h
end
/-- What is asked of each one. -/
def PrS (d : Nat) (n : Nd) (len : Nat) : Prop := d ≤ 128 ∧ fitN n len
theorem allS : ∀ (f : Fo) (d : Nat), f.fit → d + f.dp ≤ 129 → AllF PrS d f
  | .nil, _, _, _ => trivial
  | .cons n k r, d, ⟨h1, h2, h3⟩, h => by
    simp only [Fo.dp] at h
    exact ⟨⟨by omega, h1⟩, allS k (d + 1) h2 (by omega), allS r d h3 (by omega)⟩
/-- Between the rounds: the count, the result's box, and nothing old has turned. -/
structure SzI (w0 : World) (gn gr : Nat) (k : Nat) (W : World) : Prop where
  n : W.heap[gn]? = some (.cells #[.int .i64 (k : Int)] 3 (0, 0))
  r : W.heap[gr]? = some (.cells #[.int .i64 0] 3 (0, 0))
  bel : Below w0.heap.size w0 W
theorem SzI.own {w0 : World} {gn gr k B : Nat} {W W' : World} {row : Option Nat} (h : SzI w0 gn gr k W) (hB : w0.heap.size ≤ B) (hg : W.grownBy W' row) (hr : ∀ r, row = some r → B ≤ r ∧ ∃ o : Obj, W.heap[r]? = some o ∧ o.isCells = false) : SzI w0 gn gr k W' := by
  have ne : ∀ g xs t, W.heap[g]? = some (.cells xs t (0, 0)) → some g ≠ row := fun g xs t h e => by
    obtain ⟨_, o, ho, hc⟩ := hr g e.symm
    rw [h] at ho
    cases ho
    cases hc
  refine ⟨(hg.block gn (Array.getElem?_eq_some_iff.1 h.n).1 (ne _ _ _ h.n)).trans h.n, (hg.block gr (Array.getElem?_eq_some_iff.1 h.r).1 (ne _ _ _ h.r)).trans h.r, h.bel.grown hg h.bel.size (fun k e => by have := (hr k e).1; omega)⟩
theorem but_keeps {S : Nat → Prop} {W W' : World} {B : Nat} (h : But S W W') (hS : ∀ k, S k → k < B ∨ ∃ xs t, W.heap[k]? = some (.cells xs t (0, 0))) : KeepsFrom B W W' := ⟨h.size, fun k o hB hk ho => by
  rw [h.block k (Array.getElem?_eq_some_iff.1 hk).1 (fun e => ?_)]
  · exact hk
  · rcases hS k e with h1 | ⟨xs, t, h1⟩
    · omega
    · rw [h1] at hk; cases hk; cases ho⟩
theorem but_kc {S T : Nat → Prop} {W W' : World} (h : But S W W') (hT : ∀ k, S k → T k) : Kc T W W' := ⟨h.size, fun k cs t fr hn e => by rw [h.block k (Array.getElem?_eq_some_iff.1 e).1 (fun hs => hn (hT k hs))]; exact e⟩
theorem below_but {W W' : World} {B : Nat} (h : Below B W W') (hB : W.heap.size ≤ B) (S : Nat → Prop) : But S W W' := but_of_below h S (fun k hk hb => by omega)
set_option maxHeartbeats 8000000 in
set_option maxRecDepth 100000 in
theorem size_in (n : Nat) (hn : 3 ≤ n) (t : Tr) (P : Nat → Prop) (x : Value) (w : World) (T : TrV w P x t) (hf : fitT t) (hsz : szT t ≤ 4096) (hdp : dpT t ≤ 128) :
    CallsIn Fence.wide n Tryz.prog 76 #[x] w fun e w' => e = .returned (.int .i64 (szT t : Int)) ∧ Below w.heap.size w w' := by
  obtain ⟨v, zs, rfl, ho, hp, hk⟩ := T
  obtain ⟨va, vc, hv, _, _⟩ := owns8_val ho
  subst hv
  obtain ⟨nd, kids⟩ := t
  simp only at *
  have hold : Hid (Kd w (fun b => b < w.heap.size) kids zs) := hk.mono (fun b hb _ => hb)
  have hown : Hid (∀ b, (Value.slice va kids.len vc).ownBlock = some b → b < w.heap.size) := fun b hb => (owns8_lt ho hb).2
  have hPr : Hid (PrS 1 nd kids.len) := ⟨by omega, hf.1⟩
  have hA : Hid (AllF PrS 2 kids) := allS kids 2 hf.2 (by simp only [dpT] at hdp; omega)
  replace ho := hide ho
  clear hk hp hf
  have H := St.start Nope w
  have m0 := trivial
  refine callsIn_of_wp_marks Tryz.func76 rfl trivial ?_ rfl
  simp only [Tryz.ntmps76, List.size_toArray, List.length_cons, List.length_nil, Nat.reduceAdd, Nat.reduceSub, Array.replicate_succ, Array.replicate_zero, List.push_toArray, List.append_toArray, List.nil_append, List.cons_append]
  gi_wp2_with (first | ((with_reducible refine atI_box 27 ?_); refine wlS_box28 wide_fn H rfl ?_; clear H; intro g1 w1 H hg1) | ((with_reducible refine atI_alloc 3 ?_); clear m0; refine wlS_alloc3 wide_fn H ?_; clear H; intro gr w2 H hgr) | ((with_reducible refine atI_alloc 3 ?_); refine wlS_alloc3 wide_fn H ?_; clear H; intro g w2 H hg) | ((with_reducible refine atI_store 3 ?_); refine wlS_st3 0 wide_fn H rfl rfl rfl ?_; clear H; intro w3 H) | ((with_reducible refine atI_load 27 ?_); refine wlS_load28 2 wide_fn H rfl rfl ?_))
  have hln3 := H.lti 0 rfl
  have hlr3 := H.lti 1 rfl
  refine ⟨trivial, fun h => (by cases h), (within_in _ _ _ _ _ _ _).mono ?_⟩
  rintro e w5 ⟨gB, rfl, hbB, B5, hgB⟩
  replace H := H.call B5 (Nat.le_refl _)
  have hb5 := H.below
  have hs5 := hb5.size
  have hn5 := H.get 0 rfl
  have hr5 := H.get 1 rfl
  have hln := H.lti 0 rfl
  have hlr := H.lti 1 rfl
  have hne : Hid (g ≠ gr) := fun e => by
    have := H.nd
    simp [e] at this
  have hlB := (Array.getElem?_eq_some_iff.1 hbB).1
  have hgBn : Hid (gB ≠ g ∧ gB ≠ gr) := ⟨by omega, by omega⟩
  have hkw : Hid (Kc (fun k => k = g ∨ k = gr) w w5) := Kc.below hb5 (Nat.le_refl _)
  have hst := within_stops (Pr := PrS) (fun k => k = g ∨ k = gr) (n - 1) gB (nd, kids) (.slice va kids.len vc) zs w5 hbB (owns8_kc ho.out hkw.out (fun b hb => by have := hown.out b hb; omega)) (fun b hb => by have := hown.out b hb; omega) (Kd.kc hkw.out (hold.out.mono (fun b _ h => by omega))) hPr.out hA.out (by omega) (by have := hgBn.out; omega) (fun k hk => by omega)
  have I0 : SzI w g gr 0 w5 := ⟨hn5, hr5, hb5⟩
  gi_wp2
  refine wpIn_rangeFunc_ownH rfl (by omega) (gf := 179) (lb := #[.pointer (some ⟨gB, 0, none⟩)]) rfl (wide_fn 82) (enters_of Tryz.func179 (by kernel_rfl) rfl)
    hst (fun h k => h.trans k) (fun W l o o' hl ho hc _ => ⟨by simp [World.putObj], fun k cs t fr hn e => ?kb⟩) (Below.refl _ w5) (fun _ => rfl)
    (fun pre W => SzI w g gr pre.length W)
    (fun _ _ _ => False)
    (fun pre W W' row hs hg hr => hs.own hs5 hg hr)
    (fun _ _ _ _ _ hs _ _ => hs)
    I0
    (fun x a' W => ∃ g5, a' = { tmps := #[reV nd.k nd.s (.slice va kids.len vc) nd.mn nd.mx, .pointer (some ⟨g1, 0, none⟩), .pointer (some ⟨gr, 0, none⟩), .pointer (some ⟨g, 0, none⟩), .int .i64 (x.d : Int), .pointer (some ⟨g5, 0, none⟩), reV nd.k nd.s (.slice va kids.len vc) nd.mn nd.mx, .func (.func 179) #[] #[.pointer (some ⟨gB, 0, none⟩)], .int .i64 (x.d : Int), reV x.nd.k x.nd.s (.slice x.ad x.len x.cap) x.nd.mn x.nd.mx, undef, undef, undef, undef, undef, undef, undef, undef, undef, undef, undef, undef, undef, undef], defers := [] } ∧ W.heap[g5]? = some (.cells (reA x.nd.k x.nd.s (.slice x.ad x.len x.cap) x.nd.mn x.nd.mx) 27 (0, 0)))
    (fun x a' _ W W' row hs hg hr => ?ax) ?assign ?body ?done ?stop
  case kb =>
    rw [(grownBy_putObj' W l o').block k (Array.getElem?_eq_some_iff.1 e).1 (fun h => by cases h; rw [ho] at e; cases e; cases hc)]
    exact e
  case ax =>
    obtain ⟨g5, e1, e2⟩ := hs
    refine ⟨g5, e1, (hg.block g5 (Array.getElem?_eq_some_iff.1 e2).1 (fun e => ?_)).trans e2⟩
    obtain ⟨_, o, ho, hc⟩ := hr g5 e.symm
    rw [e2] at ho
    cases ho
    cases hc
  case assign =>
    intro l pre x W K hi hK
    simp only [encE, List.zip_toArray, List.zip_cons_cons, List.zip_nil_left, List.zip_nil_right, List.foldl_toArray, List.foldl_cons, List.foldl_nil, List.setIfInBounds_toArray, List.set_cons_zero, List.set_cons_succ]
    replace hK := hide hK
    replace hi := hide hi
    gi_wp2_with (first | ((with_reducible refine atI_new28 ?_); refine wlI_new28 (round_fn l) rfl (fun _ => rfl) (fun _ => rfl) ?_; intro g5 w8 hb8 B8 hg8; replace hb8 := hide hb8; replace B8 := hide B8))
    have hbl := hi.out.bel.size
    exact hK.out _ w8 (but_keeps (below_but B8.out (Nat.le_refl _) (fun _ => False)) (fun k h => h.elim)) (Kc.below B8.out (Nat.le_refl _)) (hi.out.own hs5 (below_grown B8.out) (fun r e => (by cases e))) ⟨g5, rfl, hb8.out⟩
  
  case body =>
    rintro l pre x a' W hl ⟨r, hr⟩ hi ⟨g5, rfl, hb5'⟩ hlt
    have hne5 : g5 ≠ g := fun e => by
      have h := hi.n.symm.trans (e ▸ hb5')
      simp at h
    have cN := cell_row hi.n 0 (v := .int .i64 (pre.length : Int)) rfl
    have hPx := x.h
    have hd : (x.d : Int) ≤ 128 := by have := hPx.1; omega
    have hd2 : ¬ ((128 : Int) < (x.d : Int)) := by omega
    have hc2 : ¬ ((4096 : Int) < (pre.length : Int) + 1) := by omega
    have hll : pre.length < 4096 := by omega
    have hNs := hide hi.n
    have FI := hide (fun w => isFit_any x.nd x.ad x.len x.cap hPx.2 w)
    replace hPx := hide hPx
    replace hi := hide hi
    replace hb5' := hide hb5'
    replace hr := hide hr
    gi_wp2_with (first | ((with_reducible refine atI_store 3 ?_); refine wlI_st3 (round_fn l) hNs.out rfl rfl ?_; intro w7 hn7 B7; have cN7 := cell_row hn7 0 (v := .int .i64 ((pre.length : Int) + 1)) rfl; replace hn7 := hide hn7; have hb7 := hide ((B7.block g5 (Array.getElem?_eq_some_iff.1 hb5'.out).1 hne5).trans hb5'.out); replace B7 := hide B7) | ((with_reducible refine atI_loadG 27 ?_); refine wlI_loadG 27 (round_fn l) rfl rfl (load28 hb7.out) ?_))
    refine ⟨trivial, fun h => (by cases h), (callsIn_wide.2 (FI.out w7)).mono ?_⟩
    rintro e w9 ⟨rfl, B9⟩
    have B79 : Hid (But (fun k => k = g) W w9) := B7.out.trans (below_but B9 (Nat.le_refl _) (fun _ => False)) (fun i _ h => h.elim)
    replace B9 := hide B9
    gi_wp2
    have hlg := (Array.getElem?_eq_some_iff.1 hn7.out).1
    have hlr9 := (Array.getElem?_eq_some_iff.1 hi.out.r).1
    refine ⟨but_keeps B79.out (fun k e => .inl (by omega)), but_kc B79.out (fun k e => .inl e), ?_, ?_, ?_⟩
    · rw [B9.out.block g hlg, hn7.out]
      simp
    · rw [B79.out.block gr hlr9 (fun e => hne.out e.symm), hi.out.r]
    · exact hi.out.bel.trans (B79.out.below hi.out.bel.size (fun k e => by omega))
  
  case done =>
    rintro D xs W hD hS hI hK
    have cN := cell_row hI.n 0 (v := .int .i64 (xs.length : Int)) rfl
    have hr := hide hI.r
    have hbe := hide hI.bel
    have hlr9 := (Array.getElem?_eq_some_iff.1 hI.r).1
    replace hI := hide hI
    replace hS := hide hS
    replace hK := hide hK
    gi_wp2_with (first | ((with_reducible refine atI_store 3 ?_); refine wlI_st3 wide_fn hr.out rfl rfl ?_; intro w7 hn7 B7; replace hn7 := hide hn7; replace B7 := hide B7))
    have hlD := (Array.getElem?_eq_some_iff.1 hK.out).1
    have hK7 : w7.heap[D]? = some (.deferred (some [])) := (B7.out.block D hlD (fun e => by omega)).trans hK.out
    have B77 := grownBy_putObj' w7 D (.deferred none)
    have hn9 : (w7.putObj D (.deferred none)).heap[gr]? = some (.cells #[.int .i64 (xs.length : Int)] 3 (0, 0)) := (B77.block gr (by have := B7.out.size; omega) (fun e => by cases e; omega)).trans hn7.out
    refine ⟨by simp, .inl ⟨_, _, rfl, run_takeDeferred hK7, ?_⟩⟩
    refine ⟨_, results_cell0 rfl _ _ gr _ rfl (ld3 (cell_row hn9 0 rfl)), ?_, ?_⟩
    · rw [hS.out]; rfl
    · exact (hbe.out.trans (B7.out.below (by have := hbe.out.size; omega) (fun k e => by omega))).grown B77 (by have := hbe.out.size; have := B7.out.size; omega) (fun k e => by cases e; omega)
  
  case stop =>
    rintro D c pre W _ _ hh _
    exact hh.elim
theorem size_any (t : Tr) (P : Nat → Prop) (x : Value) (w : World) (T : TrV w P x t) (hf : fitT t) (hsz : szT t ≤ 4096) (hdp : dpT t ≤ 128) :
    Calls Tryz.prog 76 #[x] w fun e w' => e = .returned (.int .i64 (szT t : Int)) ∧ Below w.heap.size w w' := callsIn_wide.1 (size_in 5 (by omega) t P x w T hf hsz hdp)
set_option maxHeartbeats 2000000 in
theorem check_any (t : Tr) (P : Nat → Prop) (x : Value) (w : World) (T : TrV w P x t) (hf : fitT t) (hsz : szT t ≤ 4096) (hdp : dpT t ≤ 128) :
    Calls Tryz.prog 34 #[x] w fun e w' => e = .returned (.bool true) ∧ Below w.heap.size w w' := by
  have H := St.start Nope w
  have SZ := hide (fun w' T => size_any t P x w' T hf hsz hdp)
  have hp : 0 < szT t := by simp [szT]; omega
  have hT : Hid (TrV w P x t) := T
  obtain ⟨va, vn, vc, rfl⟩ := T.val
  clear T
  have hp2 : (0 : Int) < (szT t : Int) := by omega
  replace hf := hide hf
  go_enter Tryz.func34, Tryz.ntmps34
  go_wp2_with (first | ((with_reducible refine at_box 27 ?_); refine wl_box28 H rfl ?_; clear H; intro g w' H q1 q2) | ((with_reducible refine at_load 27 ?_); refine wl_load28 0 H rfl rfl ?_))
  refine (SZ.out _ (hT.out.kept (fun b _ hb => H.below.block b hb))).mono ?_
  rintro e w1 ⟨rfl, B1⟩
  go_wp2_with fail
  go_ret
  exact ⟨rfl, H.below.trans (B1.mono H.below.size)⟩
end Go.Proofs.YtnffbmipllhjdaaGreatDoor

namespace Go.Proofs.YtnffbmipllhjdaaGreatDoor
open Go.RowKit
set_option linter.unusedVariables false
set_option linter.unusedSimpArgs false

theorem and_nat (x y : Nat) (hx : x < 18446744073709551616) (hy : y < 18446744073709551616) : bits BinOp.and IntKind.u64 (x : Int) (y : Int) = ((x &&& y : Nat) : Int) := u64_and_nat x y hx hy
section
variable {w w' : World} {ops : Array Oper} {rest : List Oper} {a : Act} {Q : Exit → Act → World → Prop} {dst : Option Nat} {x y : Operand} {ty t : TypeId} {pos : String} {after : Array Edge}
end
end Go.Proofs.YtnffbmipllhjdaaGreatDoor

namespace Go.Proofs.YtnffbmipllhjdaaGreatDoor
open Go.RowKit
set_option linter.unusedVariables false
set_option linter.unusedSimpArgs false

/-- Is the byte b in the set? -/
def inS (s : S4) (b : Nat) : Bool := (s.get (b / 64) / 2 ^ (b % 64)).tmod 2 == 1
end Go.Proofs.YtnffbmipllhjdaaGreatDoor

namespace Go.Proofs.YtnffbmipllhjdaaGreatDoor
open Go.RowKit Go.Shelf
set_option linter.unusedVariables false
set_option linter.unusedSimpArgs false

set_option maxHeartbeats 2000000 in
set_option maxRecDepth 100000 in
theorem has86 (s : S4) (hs : OkS s) (b : Nat) (hb : b < 256) (w : World) : Calls Tryz.prog 134 #[setV s, .int .u8 (b : Int)] w fun e w' => e = .returned (.bool (inS s b)) ∧ Below w.heap.size w w' := by
  have H := St.start Nope w
  obtain ⟨q, hq⟩ : ∃ q, q = b / 64 := ⟨_, rfl⟩
  obtain ⟨r, hr⟩ : ∃ r, r = b % 64 := ⟨_, rfl⟩
  have hq4 : q < 4 := by omega
  have hr64 : r < 64 := by omega
  have e1 : (b : Int) / 64 = (q : Int) := by omega
  have e2 : (b : Int) % 64 = (r : Int) := by omega
  have e3 : (b : Int).tdiv 64 = (q : Int) := by rw [Int.tdiv_eq_ediv_of_nonneg (by omega)]; omega
  have e4 : (b : Int).tmod 64 = (r : Int) := by rw [Int.tmod_eq_emod_of_nonneg (by omega)]; omega
  have u1 : IntKind.u8.wrap (q : Int) = (q : Int) := by simp [IntKind.wrap, IntKind.signed, IntKind.bits]; omega
  have u2 : IntKind.u8.wrap (r : Int) = (r : Int) := by simp [IntKind.wrap, IntKind.signed, IntKind.bits]; omega
  have i1 : (q : Int) < 4 := by omega
  obtain ⟨p1, p2⟩ := hs q hq4
  obtain ⟨z, hz⟩ : ∃ z : Nat, s.get q = (z : Int) := ⟨(s.get q).toNat, by omega⟩
  have e6 : ((z : Int) / 2 ^ r) = ((z / 2 ^ r : Nat) : Int) := by push_cast; rfl
  have hy : z / 2 ^ r < 18446744073709551616 := Nat.lt_of_le_of_lt (Nat.div_le_self _ _) (by omega)
  have hand := and_nat (z / 2 ^ r) 1 hy (by decide)
  generalize z / 2 ^ r = y at e6 hy hand
  have hres : Hid ((inS s b) = ((y % 2 : Nat) == 1)) := by
    show _ = _
    unfold inS
    rw [← hq, ← hr, hz, e6, Int.tmod_eq_emod_of_nonneg (by omega), Bool.eq_iff_iff, beq_iff_eq, beq_iff_eq]
    omega
  generalize hin : inS s b = res at hres
  replace hin := hide hin
  replace hq := hide hq
  replace hr := hide hr
  replace e6 := hide e6
  replace hz := hide hz
  replace hs := hide hs
  replace hand := hide hand
  clear p1 p2
  go_enter Tryz.func134, Tryz.ntmps134
  go_wp2_with (first | ((with_reducible refine at_box 24 ?_); refine wl_box25 H rfl ?_; clear H; intro g w1 H p1 p2; have c0 := H.cell 0 q rfl (v := .int .u64 (s.get q)) (by rcases (show q = 0 ∨ q = 1 ∨ q = 2 ∨ q = 3 by omega) with rfl | rfl | rfl | rfl <;> rfl)))
  go_ret
  refine ⟨?_, H.below⟩
  rw [hres.out]
  refine congrArg Ending.returned ?_
  try rw [hz.out]
  try rw [e6.out]
  have h2 : bits BinOp.and IntKind.u64 (y : Int) 1 = ((y % 2 : Nat) : Int) := by have := hand.out; rwa [Nat.and_one_is_mod] at this
  refine congrArg Value.bool ?_
  rw [h2, Bool.eq_iff_iff, beq_iff_eq, beq_iff_eq]
  omega
end Go.Proofs.YtnffbmipllhjdaaGreatDoor

namespace Go.Proofs.YtnffbmipllhjdaaGreatDoor
open Go.RowKit Go.Shelf
set_option linter.unusedVariables false
set_option linter.unusedSimpArgs false
attribute [local go_sem] Oper.semAt_some

section
variable {F : Fence} {n : Nat} {w w' : World} {ops : Array Oper} {o : Oper} {rest : List Oper} {a : Act} {K : Act → World → Prop} {E : Prop} {Q : Exit → Act → World → Prop} {dst : Option Nat} {x y : Operand} {ty : TypeId} {pos : String} {after : Array Edge}
theorem wpI_ldg (t : TypeId) {ad : Addr} {v : Value} (hF : ∀ f, F.fn f) (ho : o.op = .load t x) (hgd : Region.wanted o (yielded ops a.tmps) = true) (hx : a.eval x = .pointer (some ad)) (hl : (loadVar t ad).run Tryz.prog w = .ok v w) (h : K (a.put o.dst v) w) : if Region.wanted o (yielded ops a.tmps) = true then Oper.wpIn F n Tryz.prog o a w K Q else E := by
  rw [if_pos hgd]
  unfold Oper.wpIn
  refine ⟨fun f _ => hF f, ?_⟩
  rw [Oper.semAt_plain F _ _ (fun c hc => by rw [ho] at hc; cases hc)]
  unfold execOp
  simp only [ho, hx, Instr.loadAt, Instr.sureAddr, Sem.run_bind, Sem.run_pure, Result.andThen_ok, hl]
  exact h
end
section
variable {F : Fence} {n : Nat} {P : Program} {ops : Array Oper} {Q : Exit → Act → World → Prop} {md : Region.Mode}
/-- What an operation that defers nothing does, it does in a round too. -/
theorem opIn_inRound {o : Oper} {a : Act} {w : World} {K : Act → World → Prop} (l : Nat) (hd : ∀ c, o.op ≠ .defer c) (h : Oper.wpIn F n P o a w K Q) : Oper.wpIn (F.inRound l) n P o a w K Q := by
  refine ⟨h.1, ?_⟩
  have h2 := h.2
  rw [Oper.semAt_eq _ _ _ hd] at h2 ⊢
  exact h2
theorem anyIn_inRound (l : Nat) (hd : ∀ (j : Nat) (o : Oper), ops[j]? = some o → ∀ c, o.op ≠ .defer c) : ∀ (fuel : Nat) (listed : Array Bool) (a : Act) (w : World), wpAnyIn F n P md ops Q fuel listed a w → wpAnyIn (F.inRound l) n P md ops Q fuel listed a w := by
  intro fuel
  induction fuel with
  | zero => intro listed a w h; exact h
  | succ fuel ih =>
    intro listed a w h
    refine ⟨h.1, fun i hi => ?_⟩
    have h2 := h.2 i hi
    unfold wpOpIn at h2 ⊢
    cases ho : ops[i]? with
    | none => rw [ho] at h2; exact ih _ _ _ h2
    | some o =>
      rw [ho] at h2
      simp only at h2 ⊢
      by_cases hw : Region.wanted o (yielded ops a.tmps) = true
      · rw [if_pos hw] at h2 ⊢
        exact opIn_inRound l (hd i o ho) (Oper.wpIn_mono (fun a w h => ih _ _ _ h) h2)
      · rw [if_neg hw] at h2 ⊢
        exact ⟨h2.1, ih _ _ _ h2.2⟩
end

theorem noDefer (ops : Array Oper) (h : (ops.toList.all fun o => match o.op with | .defer _ => false | _ => true) = true) : ∀ (j : Nat) (o : Oper), ops[j]? = some o → ∀ c, o.op ≠ .defer c := by
  intro j o ho c hc
  have hm : o ∈ ops.toList := by
    have := Array.mem_of_getElem? ho
    simpa using this
  have := List.all_eq_true.1 h o hm
  rw [hc] at this
  cases this
end Go.Proofs.YtnffbmipllhjdaaGreatDoor

namespace Go.Proofs.YtnffbmipllhjdaaGreatDoor
open Go.RowKit
set_option linter.unusedVariables false
set_option linter.unusedSimpArgs false

section
variable {F : Fence} {n : Nat} {P : Program} {w : World}
/-- What is told of a round's record: it lies at l, in this state, its deferred calls' block is empty. -/
theorem own_record {α : Type} {B l D : Nat} {I : List α → World → Prop} {o1 o2 : Obj} (hI : OwnFrom B I) (hl : l < B) (hD : D < B) : OwnFrom B (fun pre W => I pre W ∧ W.heap[l]? = some o1 ∧ W.heap[D]? = some o2) := fun s A A' row hs hg hr => by
  have ne : ∀ k, k < B → some k ≠ row := fun k hk e => by have := (hr k e.symm).1; omega
  exact ⟨hI s A A' row hs.1 hg hr, (hg.block l (Array.getElem?_eq_some_iff.1 hs.2.1).1 (ne l hl)).trans hs.2.1, (hg.block D (Array.getElem?_eq_some_iff.1 hs.2.2).1 (ne D hD)).trans hs.2.2⟩
theorem keeps_put {B : Nat} {W : World} {l : Nat} {o : Obj} (hl : l < B) : KeepsFrom B W (W.putObj l o) := ⟨by simp [World.putObj], fun k o' hk h _ => (World.putObj_heap_other (by omega)).trans h⟩
end
end Go.Proofs.YtnffbmipllhjdaaGreatDoor

namespace Go.Proofs.YtnffbmipllhjdaaGreatDoor
open Go.RowKit Go.Shelf
set_option linter.unusedVariables false
set_option linter.unusedSimpArgs false
attribute [local go_sem] Oper.semAt_some

theorem own_up {β : Type} {B B' : Nat} {J : β → World → Prop} (h : OwnFrom B J) (hB : B ≤ B') : OwnFrom B' J := fun s A A' row hs hg hr => h s A A' row hs hg (fun r e => ⟨by have := (hr r e).1; omega, (hr r e).2⟩)
theorem own_below {β : Type} {B : Nat} {J : β → World → Prop} (h : OwnFrom B J) {s : β} {W W' : World} (hs : J s W) (hb : Below W.heap.size W W') : J s W' := h s W W' none hs (below_grown hb) (fun r e => by cases e)
theorem keeps_below {B : Nat} {W W' : World} (hb : Below W.heap.size W W') : KeepsFrom B W W' := ⟨hb.size, fun k o _ h _ => (hb.block k (Array.getElem?_eq_some_iff.1 h).1).trans h⟩
theorem kc_grown {X : Nat → Prop} {B : Nat} {W W' : World} {row : Option Nat} (hg : W.grownBy W' row) (hr : ∀ r, row = some r → B ≤ r ∧ ∃ o : Obj, W.heap[r]? = some o ∧ o.isCells = false) : Kc X W W' := ⟨hg.size, fun k cs t fr _ e => (hg.block k (Array.getElem?_eq_some_iff.1 e).1 (fun e2 => by
  obtain ⟨_, o, ho, hc⟩ := hr k e2.symm
  rw [e] at ho
  cases ho
  cases hc)).trans e⟩
section
variable {F : Fence} {n : Nat} {w w' : World} {ops : Array Oper} {rest : List Oper} {a : Act} {Q : Exit → Act → World → Prop} {dst : Option Nat} {x y : Operand} {ty : TypeId} {pos : String} {after : Array Edge}
end
end Go.Proofs.YtnffbmipllhjdaaGreatDoor

namespace Go.Proofs.YtnffbmipllhjdaaGreatDoor.G
open Go.RowKit Go.Shelf
set_option linter.unusedVariables false
set_option linter.unusedSimpArgs false

/-- What an iterator hands out that keeps blocks of its own: Kp says, from where the heap ended when it was called, what a round must keep; d: how many blocks it has laid at least. -/
def SeqB {α : Type} (d : Nat) (F : Fence) (n : Nat) (P : Program) (g : Nat) (lb : Array Value) (encs : α → Array Value) (Kp : Nat → World → World → Prop) (S Sp : List α → Prop) (Y : List α → α → Prop) (w : World) : Prop :=
  ∀ (l : Nat) (J Jx : List α → World → Prop) (W : World), Below w.heap.size w W → OwnFrom W.heap.size J → OwnFrom W.heap.size Jx →
    (∀ pre x W1, J pre W1 → Y pre x → W.heap.size + d ≤ W1.heap.size → YieldAt F (n - 1) P l (encs x) W1 fun e W' =>
      KeepsFrom W.heap.size W1 W' ∧ ((e = .returned (.bool true) ∧ J (pre ++ [x]) W' ∧ Kp W.heap.size W1 W') ∨ (e = .returned (.bool false) ∧ Jx (pre ++ [x]) W'))) →
    J [] W →
    CallsIn F n P g (#[.func (.yield l) #[] #[]] ++ lb) W fun e W' => (∃ v, e = .returned v) ∧ ((∃ xs, S xs ∧ J xs W') ∨ (∃ pre, Sp pre ∧ Jx pre W'))
section
variable {d : Nat} {F : Fence} {n : Nat} {P : Program} {w : World}
/-- The range. -/
theorem wpIn_rangeB {α : Type} {g : Operand} {ps : Array Tmp} {assign body : Code} {Q : Exit → Act → World → Prop} {a : Act}
    (hro : F.round = none) (h1 : 1 ≤ n) {gf : Nat} {lb : Array Value} (hg : a.eval g = .func (.func gf) #[] lb) (hFg : F.fn gf) (eg : ∀ args w, (callFunc gf args).run P w = .ok (.enter gf args) w)
    {encs : α → Array Value} {Kp : Nat → World → World → Prop} {S Sp : List α → Prop} {Y : List α → α → Prop} {w0 : World} (hseq : SeqB d F (n - 1) P gf lb encs Kp S Sp Y w0)
    (hKt : ∀ {A B C : World}, Kp (w.heap.size + 2) A B → Kp (w.heap.size + 2) B C → Kp (w.heap.size + 2) A C) (hKb : ∀ (W : World) (l : Nat) (o o' : Obj), w.heap.size ≤ l → W.heap[l]? = some o → o.isCells = false → o.isWalk = false → Kp (w.heap.size + 2) W (W.putObj l o')) (hb0 : Below w0.heap.size w0 w) (hps : ∀ x, (encs x).size = ps.size)
    (I : List α → World → Prop) (Ix : Code → List α → World → Prop) (hI : OwnFrom w.heap.size I) (hIx : ∀ c, OwnFrom w.heap.size (Ix c)) (h0 : I [] w) (Ax : α → Act → World → Prop) (hAx : ∀ x a', OwnFrom w.heap.size (fun (_ : Unit) W => Ax x a' W))
    (hassign : ∀ (l : Nat) (pre : List α) (x : α) (W : World) (K : Act → World → Prop), I pre W → (∀ a' W', KeepsFrom w.heap.size W W' → Kp (w.heap.size + 2) W W' → I pre W' → Ax x a' W' → K a' W') →
      assign.wpIn (F.inRound l) (n - 1 - 1) P (Exit.then K (fun _ _ _ => False)) { tmps := (ps.zip (encs x)).foldl (fun t (p, v) => t.setIfInBounds p v) a.tmps, defers := [] } W)
    (hbody : ∀ (l : Nat) (pre : List α) (x : α) (a' : Act) (W : World), w.heap.size ≤ l → (∃ r, W.heap[l]? = some (.loop r)) → I pre W → Ax x a' W → Y pre x → w.heap.size + 2 + d ≤ W.heap.size → body.wpIn (F.inRound l) (n - 1 - 1) P (ownPostG w.heap.size (Kp (w.heap.size + 2)) I Ix (pre ++ [x]) W) a' W)
    (hdone : ∀ (D : Nat) (xs : List α) (W : World), w.heap.size ≤ D → S xs → I xs W → W.heap[D]? = some (.deferred (some [])) → Q .normal { a with defers := { target := .collected D, args := #[] } :: a.defers } W)
    (hstop : ∀ (D : Nat) (c : Code) (pre : List α) (W : World), w.heap.size ≤ D → Sp pre → Ix c pre W → W.heap[D]? = some (.deferred (some [])) → c.wpIn F n P Q { a with defers := { target := .collected D, args := #[] } :: a.defers } W) :
    (Code.rangeFunc g ps assign body).wpIn F n P Q a w := by
  refine wpIn_rangeFunc ?_
  intro fn hfn
  rw [hro]
  obtain ⟨rec, hrec⟩ : ∃ rec : LoopState → Option Code → Loop, rec = fun st pe => { state := st, pending := pe, fn, tmps := a.tmps, params := ps, assign, body, defers := w.heap.size } := ⟨_, rfl⟩
  obtain ⟨W1, hW1⟩ : ∃ W1, (w.alloc (.deferred (some []))).alloc (.loop (rec .ready none)) = W1 := ⟨_, rfl⟩
  have hs1 : W1.heap.size = w.heap.size + 2 := by rw [← hW1]; simp
  have hL1 : W1.heap[w.heap.size + 1]? = some (.loop (rec .ready none)) := by
    rw [← hW1]; have := World.alloc_heap_new (w.alloc (.deferred (some []))) (.loop (rec .ready none)); rwa [World.size_alloc] at this
  have hK1 : W1.heap[w.heap.size]? = some (.deferred (some [])) := by
    rw [← hW1]; exact (Below.heap_alloc _ _ _ (by simp)).trans (World.alloc_heap_new w _)
  have hI1 : I [] W1 := by rw [← hW1]; exact hI.alloc _ (hI.alloc _ h0)
  have hb1 : Below w0.heap.size w0 W1 := by
    rw [← hW1]; exact hb0.trans ((((Below.refl _ w).alloc (Nat.le_refl _) _).alloc (by simp) _).mono hb0.size)
  have up : ∀ {J : List α → World → Prop}, OwnFrom w.heap.size J → OwnFrom W1.heap.size J := fun h s A A' row hs hg hr => h s A A' row hs hg (fun r e => ⟨by have := (hr r e).1; omega, (hr r e).2⟩)
  refine ⟨w.heap.size + 1, [{ target := .collected w.heap.size, args := #[] }], W1, { target := .fn (.func gf) lb, args := #[.func (.yield (w.heap.size + 1)) #[] #[]] }, W1, gf,
    #[.func (.yield (w.heap.size + 1)) #[] #[]] ++ lb, W1, ?_, ?_, ?_, ?_, fun _ => h1, ?_⟩
  · rw [← hW1, hrec]; exact run_enterLoop_outer _ _ _ _ _
  · simp only [resolve, hg]
    simp [go_sem]
  · intro f' hf'; simp [Target.leads] at hf'; subst hf'; exact hFg
  · simp [invoke, go_sem, eg]
  · refine (hseq (w.heap.size + 1)
      (fun pre W => I pre W ∧ W.heap[w.heap.size + 1]? = some (.loop (rec .ready none)) ∧ W.heap[w.heap.size]? = some (.deferred (some [])))
      (fun pre W => ∃ c, Ix c pre W ∧ W.heap[w.heap.size + 1]? = some (.loop (rec .done (some c))) ∧ W.heap[w.heap.size]? = some (.deferred (some [])))
      W1 hb1 (own_record (up hI) (by omega) (by omega))
      (fun s A A' row hs hg' hr => by
        obtain ⟨c, hc⟩ := hs
        exact ⟨c, own_record (up (hIx c)) (by omega) (by omega) s A A' row hc hg' hr⟩)
      ?_ ⟨hI1, hL1, hK1⟩).mono ?_
    · rintro pre x W ⟨hi, hl, hk⟩ hlen hsz
      have hy := run_yield (P := P) (args := encs x) hl (by rw [hrec]; exact hps x)
      rw [hrec] at hy
      refine ⟨fn, _, assign, body, hy, roundIn_of_wpIn hfn (hassign _ pre x W _ hi ?_)⟩
      clear hy
      intro a' Wa hkfa hkpa hia hax
      have hla := hkfa.same _ _ (by omega) hl rfl
      have hka := hkfa.same _ _ (Nat.le_refl _) hk rfl
      have hlt : w.heap.size + 1 < Wa.heap.size := (Array.getElem?_eq_some_iff.1 hla).1
      refine ⟨_, run_beginRound hla (by rw [hrec]), ?_⟩
      obtain ⟨Wb, hWb⟩ : ∃ Wb, Wb = Wa.putObj (w.heap.size + 1) (.loop { rec .ready none with state := .busy }) := ⟨_, rfl⟩
      have hl2 : Wb.heap[w.heap.size + 1]? = some (.loop { rec .ready none with state := .busy }) := by rw [hWb]; exact World.putObj_heap_same hlt
      have hk2 : Wb.heap[w.heap.size]? = some (.deferred (some [])) := by rw [hWb]; exact (World.putObj_heap_other (by omega)).trans hka
      have hw2 : Kp (w.heap.size + 2) Wa Wb := by rw [hWb]; exact hKb _ _ _ _ (by omega) hla rfl rfl
      have hib : I pre Wb := by rw [hWb]; exact hI.putObj _ hia (by omega) hla rfl
      have hab : Ax x a' Wb := by rw [hWb]; exact (hAx x a').putObj (s := ()) _ hax (by omega) hla rfl
      have hkf2 : KeepsFrom W1.heap.size W Wb := (KeepsFrom.trans ⟨hkfa.size, fun k o hk => hkfa.same k o (by omega)⟩ (by rw [hWb]; exact keeps_put (by omega)))
      rw [← hWb]
      refine wpIn_mono (hbody _ pre x a' _ (by omega) ⟨_, hl2⟩ hib hab hlen (by rw [hWb]; have := hkfa.size; simp [World.putObj]; omega)) ?_
      have fin : ∀ (jump : Option Code) (W3 : World), KeepsFrom w.heap.size Wb W3 →
          (Instr.endRound (w.heap.size + 1) jump).run P W3 = .ok (.bool jump.isNone) (W3.putObj (w.heap.size + 1) (.loop (rec (if jump.isNone then .ready else .done) jump))) ∧
          W3.heap[w.heap.size + 1]? = some (.loop { rec .ready none with state := .busy }) ∧
          (W3.putObj (w.heap.size + 1) (.loop (rec (if jump.isNone then .ready else .done) jump))).heap[w.heap.size + 1]? = some (.loop (rec (if jump.isNone then .ready else .done) jump)) ∧
          (W3.putObj (w.heap.size + 1) (.loop (rec (if jump.isNone then .ready else .done) jump))).heap[w.heap.size]? = some (.deferred (some [])) ∧
          KeepsFrom W1.heap.size W (W3.putObj (w.heap.size + 1) (.loop (rec (if jump.isNone then .ready else .done) jump))) := fun jump W3 hk3 => by
        have hl3 := hk3.same _ _ (by omega) hl2 rfl
        have := run_endRound (P := P) jump hl3
        rw [hrec] at this ⊢
        refine ⟨this, by rw [hrec] at hl3; exact hl3, World.putObj_heap_same (Array.getElem?_eq_some_iff.1 hl3).1, (World.putObj_heap_other (by omega)).trans (hk3.same _ _ (Nat.le_refl _) hk2 rfl), ?_⟩
        exact hkf2.trans (KeepsFrom.trans ⟨hk3.size, fun k o hk => hk3.same k o (by omega)⟩ (keeps_put (by omega)))
      rintro e a3 W3 hp
      cases e with
      | normal =>
        obtain ⟨hk3, hkp3, hi3⟩ := hp
        obtain ⟨hr, hl3, hl4, hk4, hkf⟩ := fin none W3 hk3
        exact ⟨_, _, hr, hkf, .inl ⟨rfl, ⟨hI.putObj _ hi3 (by omega) hl3 rfl, hl4, hk4⟩, by rw [hs1]; exact hKt hkpa (hKt (hKt hw2 hkp3) (hKb _ _ _ _ (by omega) hl3 rfl rfl))⟩⟩
      | ret =>
        obtain ⟨hk3, hi3⟩ := hp
        obtain ⟨hr, hl3, hl4, hk4, hkf⟩ := fin (some .ret) W3 hk3
        exact ⟨_, _, hr, hkf, .inr ⟨rfl, .ret, (hIx _).putObj _ hi3 (by omega) hl3 rfl, hl4, hk4⟩⟩
      | exit id =>
        obtain ⟨hk3, hi3⟩ := hp
        obtain ⟨hr, hl3, hl4, hk4, hkf⟩ := fin (some (.exit id)) W3 hk3
        exact ⟨_, _, hr, hkf, .inr ⟨rfl, .exit id, (hIx _).putObj _ hi3 (by omega) hl3 rfl, hl4, hk4⟩⟩
      | goto t =>
        obtain ⟨hk3, hi3⟩ := hp
        obtain ⟨hr, hl3, hl4, hk4, hkf⟩ := fin (some (.goto t)) W3 hk3
        exact ⟨_, _, hr, hkf, .inr ⟨rfl, .goto t, (hIx _).putObj _ hi3 (by omega) hl3 rfl, hl4, hk4⟩⟩
      | panic ch => exact hp.elim
      | outgrown => exact hp.elim
    · rintro e W2 ⟨⟨v, rfl⟩, (⟨xs, hS, hi, hl, hk⟩ | ⟨pre, hSp, c, hi, hl, hk⟩)⟩
      · exact ⟨none, _, by have := run_endLoop (P := P) hl (by rw [hrec]; simp); rw [hrec] at this; exact this, hdone _ xs _ (Nat.le_refl _) hS (hI.putObj _ hi (by omega) hl rfl) ((World.putObj_heap_other (by omega)).trans hk)⟩
      · exact ⟨some c, _, by have := run_endLoop (P := P) hl (by rw [hrec]; simp); rw [hrec] at this; exact this, hstop _ c pre _ (Nat.le_refl _) hSp ((hIx c).putObj _ hi (by omega) hl rfl) ((World.putObj_heap_other (by omega)).trans hk)⟩
end
end Go.Proofs.YtnffbmipllhjdaaGreatDoor.G

namespace Go.Proofs.YtnffbmipllhjdaaGreatDoor.G
open Go.RowKit Go.Shelf
set_option linter.unusedVariables false
set_option linter.unusedSimpArgs false
attribute [local go_sem] Oper.semAt_some

/-- The texts that an iterator gives, as what it hands out. -/
abbrev encT (x : Tx) : Array Value := #[encStr x]
theorem winds_get {s : Tx} {k : Nat} (h : k < (winds s).length) : (winds s)[k]? = some ((s.drop k).take 3) := by
  rw [winds_len] at h
  simp [winds, List.getElem?_map, List.getElem?_range, h]
theorem str_cut (s : Tx) (i j : Nat) : (⟨s.toArray⟩ : ByteArray).extract i j = ⟨((s.drop i).take (j - i)).toArray⟩ := by
  apply ByteArray.ext
  rw [ByteArray.data_extract]
  apply Array.toList_inj.1
  simp [Array.toList_extract, List.extract_eq_take_drop]
set_option maxHeartbeats 2000000 in
set_option maxRecDepth 100000 in
theorem grams1_in (X : Nat → Prop) (n : Nat) (hn : 1 ≤ n) (l Bs : Nat) (s : Tx) (hs : s.length ≤ 1099511627776) (hX : ¬ X Bs) (J Jx : List Tx → World → Prop)
    (W : World) (hY : ∀ pre x W1, J pre W1 → pre ++ [x] <+: winds s → W.heap.size + 0 ≤ W1.heap.size → YieldAt Fence.wide (n - 1) Tryz.prog l (encT x) W1 fun e W' =>
      KeepsFrom W.heap.size W1 W' ∧ ((e = .returned (.bool true) ∧ J (pre ++ [x]) W' ∧ Kc X W1 W') ∨ (e = .returned (.bool false) ∧ Jx (pre ++ [x]) W')))
    (hBs : W.heap[Bs]? = some (.cells #[encStr s] 9 (0, 0))) (h0 : J [] W) :
    CallsIn Fence.wide n Tryz.prog 89 #[.func (.yield l) #[] #[], .pointer (some ⟨Bs, 0, none⟩)] W fun e W' => (∃ v, e = .returned v) ∧ ((∃ ys, ys = winds s ∧ J ys W') ∨ (∃ pre, pre <+: winds s ∧ Jx pre W')) := by
  obtain ⟨m, hm⟩ : ∃ m, (winds s).length = m := ⟨_, rfl⟩
  have hm2 := winds_len s
  obtain ⟨N, hN⟩ : ∃ N, s.length = N := ⟨_, rfl⟩
  rw [hN] at hs hm2
  rw [hm] at hm2
  have hsz : (⟨s.toArray⟩ : ByteArray).size = N := by simpa [ByteArray.size] using hN
  have iN : (N : Int) ≤ 1099511627776 := by omega
  replace hm := hide hm
  replace hN := hide hN
  refine callsIn_of_wp Tryz.func89 rfl trivial ?_ rfl
  simp only [Tryz.ntmps89, List.size_toArray, List.length_cons, List.length_nil, Nat.reduceAdd, Nat.reduceSub, Array.replicate_succ, Array.replicate_zero, List.push_toArray, List.append_toArray, List.nil_append, List.cons_append]
  gi_wp2
  gi_loopw [3] (fun i wr => ∃ k : Nat, k ≤ m ∧ i = .int .i64 ((k + 3 : Nat) : Int) ∧ J ((winds s).take k) wr ∧ Hid (wr.heap[Bs]? = some (.cells #[encStr s] 9 (0, 0))) ∧ Hid (W.heap.size ≤ wr.heap.size)) (fun i _ => m + 3 - (RowKit.intOf i).toNat)
  case atStart => exact ⟨0, Nat.zero_le _, rfl, by simpa using h0, hBs, Nat.le_refl _⟩
  case round =>
    obtain ⟨k, hk, rfl, hJs, hb, hsw⟩ := hrel
    have c0 : wr.cell? ⟨Bs, 0, none⟩ = some (.string ⟨s.toArray⟩) := cell_row hb.out 0 rfl
    by_cases hlt : k < m
    · obtain ⟨k3, hk3⟩ : ∃ k3, k + 3 = k3 := ⟨_, rfl⟩
      rw [hk3]
      have i1 : (k3 : Int) ≤ (N : Int) := by omega
      have i2 : (k3 : Int) - 3 = (k : Int) := by omega
      have i3 : (k : Int) ≤ (k3 : Int) := by omega
      have hx : (winds s)[k]? = some ((s.drop k).take 3) := winds_get (by rw [hm.out]; exact hlt)
      have hcut : (⟨s.toArray⟩ : ByteArray).extract k k3 = ⟨((s.drop k).take 3).toArray⟩ := by rw [str_cut, show k3 - k = 3 by omega]
      generalize (s.drop k).take 3 = x at *
      have ht : Hid ((winds s).take k ++ [x] = (winds s).take (k + 1)) := by
        show _ = _
        rw [List.take_add_one, hx]; rfl
      have hpre : Hid ((winds s).take (k + 1) <+: winds s) := List.take_prefix _ _
      obtain ⟨fn, tmps, assign, body, hy, hR⟩ := hY _ x wr hJs (by rw [ht.out]; exact hpre.out) hsw.out
      rw [ht.out] at hR
      simp only [encT, encStr] at hy
      replace hx := hide hx
      obtain ⟨S, hS⟩ : ∃ S : ByteArray, ⟨s.toArray⟩ = S := ⟨_, rfl⟩
      rw [hS] at hcut hsz c0
      replace hS := hide hS
      have i4 : (k3 : Int) ≤ (S.size : Int) := by omega
      have i5 : k3 ≤ S.size := by omega
      have i6 : k ≤ k3 := by omega
      clear hY hJs
      gi_wp2
      refine hR.mono ?_
      rintro e W3 ⟨_, (⟨rfl, hJ3, hk3b⟩ | ⟨rfl, hJx3⟩)⟩
      · have hb3 := hide (hk3b.2 Bs _ _ _ hX hb.out)
        have hs3 : Hid (W.heap.size ≤ W3.heap.size) := Nat.le_trans hsw.out hk3b.1
        clear hk3b
        gi_wp2
        go_roundw
        case rel => exact ⟨k + 1, by omega, by simp; omega, hJ3, hb3, hs3⟩
        case measure => simp [RowKit.intOf]; omega
      · gi_wp2
        refine bodyPost_ret (results_none rfl _ _ _) rfl ?_
        exact ⟨⟨_, rfl⟩, .inr ⟨_, hpre.out, hJx3⟩⟩
    · obtain rfl : k = m := by omega
      obtain ⟨k3, hk3⟩ : ∃ k3, k + 3 = k3 := ⟨_, rfl⟩
      rw [hk3]
      obtain ⟨S, hS⟩ : ∃ S : ByteArray, ⟨s.toArray⟩ = S := ⟨_, rfl⟩
      rw [hS] at hsz c0
      replace hS := hide hS
      have i1 : ¬ (k3 : Int) ≤ (S.size : Int) := by omega
      rw [List.take_of_length_le (by rw [hm.out]; exact Nat.le_refl _)] at hJs
      gi_wp2
      go_end0
      exact ⟨⟨_, rfl⟩, .inl hJs⟩
theorem grams1_stops (X : Nat → Prop) (n : Nat) (hn : 1 ≤ n) (Bs : Nat) (s : Tx) (hs : s.length ≤ 1099511627776) (hX : ¬ X Bs) (w : World) (h : w.heap[Bs]? = some (.cells #[encStr s] 9 (0, 0))) :
    SeqB 0 Fence.wide n Tryz.prog 89 #[.pointer (some ⟨Bs, 0, none⟩)] encT (fun _ => Kc X) (fun ys => ys = winds s) (fun pre => pre <+: winds s) (fun pre x => pre ++ [x] <+: winds s) w := fun l J Jx W hW _ _ hY h0 =>
  grams1_in X n hn l Bs s hs hX J Jx W hY ((hW.block Bs (Array.getElem?_eq_some_iff.1 h).1).trans h) h0
set_option maxHeartbeats 400000 in
theorem grams_in (n : Nat) (s : Tx) (w : World) : CallsIn Fence.wide n Tryz.prog 40 #[encStr s] w fun e w' => e = .returned (.func (.func 89) #[] #[.pointer (some ⟨w.heap.size, 0, none⟩)]) ∧ w' = w.alloc (.cells #[encStr s] 9) := by
  have hmf : ∀ (fn : Fn) (first cap : Array Value) (w : World), (Instr.makeFunc fn first cap).run Tryz.prog w = .ok (.func fn first cap) w := fun _ _ _ _ => rfl
  refine callsIn_of_wp Tryz.func40 rfl trivial ?_ rfl
  simp only [Tryz.ntmps40, List.size_toArray, List.length_cons, List.length_nil, Nat.reduceAdd, Nat.reduceSub, Array.replicate_succ, Array.replicate_zero, List.push_toArray, List.append_toArray, List.nil_append, List.cons_append]
  gi_wp2
  go_ret
  exact ⟨rfl, rfl⟩
set_option maxHeartbeats 400000 in
theorem itself_in (n : Nat) (v : Value) (w : World) : CallsIn Fence.wide n Tryz.prog 41 #[v] w fun e w' => e = .returned v ∧ w' = w := by
  refine callsIn_of_wp Tryz.func41 rfl trivial ?_ rfl
  simp only [Tryz.ntmps41, List.size_toArray, List.length_cons, List.length_nil, Nat.reduceAdd, Nat.reduceSub, Array.replicate_succ, Array.replicate_zero, List.push_toArray, List.append_toArray, List.nil_append, List.cons_append]
  gi_wp2
  go_ret
  exact ⟨rfl, rfl⟩
end Go.Proofs.YtnffbmipllhjdaaGreatDoor.G

namespace Go.Proofs.YtnffbmipllhjdaaGreatDoor.G
open Go.RowKit Go.Shelf Go.Maps Go.WideMaps
set_option linter.unusedVariables false
set_option linter.unusedSimpArgs false
attribute [local go_sem] Oper.semAt_some

set_option maxRecDepth 100000 in
theorem law9 : Keyed Tryz.prog 9 := string_keyed Tryz.underlying9
abbrev txkey (s : Tx) : Lit := .string s
set_option maxRecDepth 100000 in
theorem hkey9 {s : Tx} (h : s.length ≤ maxLen) : keyOf Tryz.prog 9 (.string ⟨s.toArray⟩) = some (txkey s) := by
  have := keyOf_string_mk Tryz.underlying9 (s := ⟨s.toArray⟩) (by simpa [ByteArray.size] using h)
  simpa using this
theorem zero103 (w : World) : (zeroValue 103).run Tryz.prog w = .ok (.agg #[]) w := by kernel_rfl
/-- Block b is a set of texts: those of had. -/
structure SetT (w : World) (b : Nat) (had : List Tx) : Prop where
  map : ∃ n D, n ≤ had.length ∧ w.ownsMap (H := Unit) Tryz.prog 9 unitElem b n D ∧ ∀ s : Tx, Maps.has D (txkey s) = decide (s ∈ had)
theorem SetT.kept {w w' : World} {b : Nat} {had : List Tx} {row : Option Nat} (h : SetT w b had) (hg : w.grownBy w' row) (hr : some b ≠ row) : SetT w' b had := by
  obtain ⟨n, D, h1, h2, h3⟩ := h.map
  exact ⟨n, D, h1, h2.kept hg hr, h3⟩
theorem SetT.block {w w' : World} {b : Nat} {had : List Tx} (h : SetT w b had) (hb : w'.heap[b]? = w.heap[b]?) : SetT w' b had := by
  obtain ⟨n, D, h1, ⟨es, clock, e1, e2, e3, e4⟩, h3⟩ := h.map
  exact ⟨n, D, h1, ⟨es, clock, hb.trans e1, e2, e3, e4⟩, h3⟩
theorem SetT.lt {w : World} {b : Nat} {had : List Tx} (h : SetT w b had) : b < w.heap.size := by
  obtain ⟨n, D, _, h2, _⟩ := h.map
  exact h2.lt
theorem SetT.obj {w : World} {b : Nat} {had : List Tx} (h : SetT w b had) : ∃ o : Obj, w.heap[b]? = some o ∧ o.isCells = false := by
  obtain ⟨n, D, _, ⟨es, clock, e1, _⟩, _⟩ := h.map
  exact ⟨_, e1, rfl⟩
theorem setT_made (w : World) : SetT (w.alloc (.map #[] 0)) w.heap.size [] := ⟨0, .map [], Nat.le_refl _, World.ownsMap_made _ _ _ _, fun s => rfl⟩
/-- What lies still while distinct goes on. -/
structure DsI (X : Nat → Prop) (V : World) (gy gt m l : Nat) (had : List Tx) (W : World) : Prop where
  kc : Kc X V W
  y : W.heap[gy]? = some (.cells #[.func (.yield l) #[] #[]] 81 (0, 0))
  t : W.heap[gt]? = some (.cells #[.map (some m)] 102 (0, 0))
  s : SetT W m had
end Go.Proofs.YtnffbmipllhjdaaGreatDoor.G

namespace Go.Proofs.YtnffbmipllhjdaaGreatDoor.G
open Go.RowKit Go.Shelf Go.Maps Go.WideMaps
set_option linter.unusedVariables false
set_option linter.unusedSimpArgs false
attribute [local go_sem] Oper.semAt_some

theorem dis_pre {α : Type} [DecidableEq α] (a b : List α) : ∀ had : List α, dis had a <+: dis had (a ++ b) := by
  induction a with
  | nil => intro had; exact List.nil_prefix
  | cons x r ih =>
    intro had
    by_cases h : x ∈ had
    · simpa [dis, h] using ih had
    · simpa [dis, h] using ih (x :: had)
theorem dis_prefix {α : Type} [DecidableEq α] {a L : List α} (h : a <+: L) (had : List α) : dis had a <+: dis had L := by
  obtain ⟨b, rfl⟩ := h
  exact dis_pre a b had
section
variable {F : Fence} {n : Nat} {w w' : World} {ops : Array Oper} {rest : List Oper} {a : Act} {Q : Exit → Act → World → Prop} {dst : Option Nat} {x y : Operand} {ty : TypeId} {pos : String} {after : Array Edge}
theorem wlI_box81 (hF : ∀ f, F.fn f) {f : Fn} {xs ys : Array Value} (hx : a.eval x = .func f xs ys) (h : ∀ g w', g = w.heap.size → w'.heap[g]? = some (.cells #[.func f xs ys] 81 (0, 0)) → Below w.heap.size w w' → w'.heap.size = w.heap.size + 1 → wpListIn F n Tryz.prog ops Q rest (a.put dst (.pointer (some ⟨g, 0, none⟩))) w') : wpListIn F n Tryz.prog ops Q (⟨dst, .box 81 x, ty, pos, after, none⟩ :: rest) a w := by
  have e : (execOp a.eval ⟨dst, .box 81 x, ty, pos, after, none⟩).run Tryz.prog w = .ok (.value (.pointer (some ⟨w.heap.size, 0, none⟩))) (w.alloc (.cells #[.func f xs ys] 81)) := by
    unfold execOp
    simp only [hx]
    kernel_rfl
  exact wlI_val hF (fun c => nofun) e (h _ _ rfl (heap_alloc_new w _) ((Below.refl _ w).alloc (Nat.le_refl _) _) (by simp))
theorem wlI_alloc102 (hF : ∀ f, F.fn f) (h : ∀ g w', g = w.heap.size → w'.heap[g]? = some (.cells #[.map none] 102 (0, 0)) → Below w.heap.size w w' → w'.heap.size = w.heap.size + 1 → wpListIn F n Tryz.prog ops Q rest (a.put dst (.pointer (some ⟨g, 0, none⟩))) w') : wpListIn F n Tryz.prog ops Q (⟨dst, .alloc 102, ty, pos, after, none⟩ :: rest) a w := by
  have e : (execOp a.eval ⟨dst, .alloc 102, ty, pos, after, none⟩).run Tryz.prog w = .ok (.value (.pointer (some ⟨w.heap.size, 0, none⟩))) (w.alloc (.cells #[.map none] 102)) := by
    unfold execOp
    kernel_rfl
  exact wlI_val hF (fun c => nofun) e (h _ _ rfl (heap_alloc_new w _) ((Below.refl _ w).alloc (Nat.le_refl _) _) (by simp))
theorem one102 : ∀ w, (sizeOf 102).run Tryz.prog w = .ok 1 w := fun w => by kernel_rfl
theorem run_st102 {g : Nat} {u : Value} {m : Nat} (h : w.heap[g]? = some (.cells #[u] 102 (0, 0))) : (storeVar 102 ⟨g, 0, none⟩ (.map (some m))).run Tryz.prog w = .ok () (w.setCell ⟨g, 0, none⟩ (.map (some m))) := by
  have hc := cell_row h 0 (v := u) rfl
  have hf := frozen_of_row w g 0 _ 102 h
  have e : (storeCells ⟨g, 0, none⟩ [.map (some m)]).run Tryz.prog w = .ok () (w.setCell ⟨g, 0, none⟩ (.map (some m))) := by simp [storeCells, go_sem, stored, hc, hf]
  have e4 : (Value.map (some m)).cells = #[.map (some m)] := rfl
  unfold storeVar
  simp only [Sem.run_bind, one102, Result.andThen_ok, e4]
  simpa using e
theorem wlI_st102 (hF : ∀ f, F.fn f) {g m : Nat} {u : Value} (hg : w.heap[g]? = some (.cells #[u] 102 (0, 0))) (hx : a.eval x = .pointer (some ⟨g, 0, none⟩)) (hy : a.eval y = .map (some m)) (h : ∀ w', w'.heap[g]? = some (.cells #[.map (some m)] 102 (0, 0)) → But (fun k => k = g) w w' → w'.heap.size = w.heap.size → wpListIn F n Tryz.prog ops Q rest a w') : wpListIn F n Tryz.prog ops Q (⟨none, .store 102 x y, ty, pos, after, none⟩ :: rest) a w := by
  refine wlI_skip (w' := w.setCell ⟨g, 0, none⟩ (.map (some m))) hF (fun c => nofun) ?_ (h _ ?_ ?_ (by simp [World.setCell]))
  · unfold execOp
    simp only [hx, hy, Instr.storeAt, Instr.sureAddr, Sem.run_bind, Sem.run_pure, Result.andThen_ok, run_st102 hg]
  · exact heap_setCell_same w g 0 _ 102 _ hg
  · exact ⟨rfl, rfl, rfl, by simp [World.setCell], fun k hk hn => Below.heap_setCell w ⟨g, 0, none⟩ _ k hn⟩
theorem wlI_alloc103 (hF : ∀ f, F.fn f) (h : ∀ g w', g = w.heap.size → w'.heap[g]? = some (.cells #[] 103 (0, 0)) → Below w.heap.size w w' → wpListIn F n Tryz.prog ops Q rest (a.put dst (.pointer (some ⟨g, 0, none⟩))) w') : wpListIn F n Tryz.prog ops Q (⟨dst, .alloc 103, ty, pos, after, none⟩ :: rest) a w := by
  have e : (execOp a.eval ⟨dst, .alloc 103, ty, pos, after, none⟩).run Tryz.prog w = .ok (.value (.pointer (some ⟨w.heap.size, 0, none⟩))) (w.alloc (.cells #[] 103)) := by
    unfold execOp
    kernel_rfl
  exact wlI_val hF (fun c => nofun) e (h _ _ rfl (heap_alloc_new w _) ((Below.refl _ w).alloc (Nat.le_refl _) _))
theorem wlI_st103 (hF : ∀ f, F.fn f) {g : Nat} (hx : a.eval x = .pointer (some ⟨g, 0, none⟩)) (hy : a.eval y = .agg #[]) (h : wpListIn F n Tryz.prog ops Q rest a w) : wpListIn F n Tryz.prog ops Q (⟨none, .store 103 x y, ty, pos, after, none⟩ :: rest) a w := by
  refine wlI_skip (w' := w) hF (fun c => nofun) ?_ h
  unfold execOp
  simp only [hx, hy]
  kernel_rfl
end
theorem ld81 {w : World} {ad : Addr} {v : Value} (h : w.cell? ad = some v) : (loadVar 81 ad).run Tryz.prog w = .ok v w := by
  have ha : ∀ w, (isAgg 81).run Tryz.prog w = .ok false w := fun w => by kernel_rfl
  simp [loadVar, ha, go_sem, h]
theorem ld80 {w : World} {ad : Addr} {v : Value} (h : w.cell? ad = some v) : (loadVar 80 ad).run Tryz.prog w = .ok v w := by
  have ha : ∀ w, (isAgg 80).run Tryz.prog w = .ok false w := fun w => by kernel_rfl
  simp [loadVar, ha, go_sem, h]
theorem ld90 {w : World} {ad : Addr} {v : Value} (h : w.cell? ad = some v) : (loadVar 90 ad).run Tryz.prog w = .ok v w := by
  have ha : ∀ w, (isAgg 90).run Tryz.prog w = .ok false w := fun w => by kernel_rfl
  simp [loadVar, ha, go_sem, h]
theorem ld102 {w : World} {ad : Addr} {v : Value} (h : w.cell? ad = some v) : (loadVar 102 ad).run Tryz.prog w = .ok v w := by
  have ha : ∀ w, (isAgg 102).run Tryz.prog w = .ok false w := fun w => by kernel_rfl
  simp [loadVar, ha, go_sem, h]
end Go.Proofs.YtnffbmipllhjdaaGreatDoor.G

namespace Go.Proofs.YtnffbmipllhjdaaGreatDoor.G
open Go.RowKit Go.Shelf Go.Maps Go.WideMaps
set_option linter.unusedVariables false
set_option linter.unusedSimpArgs false
attribute [local go_sem] Oper.semAt_some

theorem DsI.kc2 {X : Nat → Prop} {V : World} {gy gt m l : Nat} {had : List Tx} {W W' : World} (h : DsI X V gy gt m l had W) (hk : Kc X W W') (hy : ¬ X gy) (ht : ¬ X gt) (hm : W'.heap[m]? = W.heap[m]?) : DsI X V gy gt m l had W' :=
  ⟨h.kc.trans hk, hk.2 gy _ _ _ hy h.y, hk.2 gt _ _ _ ht h.t, h.s.block hm⟩
theorem ownsMap_block {w w' : World} {b n : Nat} {D : DataW Unit} (h : w.ownsMap (H := Unit) Tryz.prog 9 unitElem b n D) (hb : w'.heap[b]? = w.heap[b]?) : w'.ownsMap (H := Unit) Tryz.prog 9 unitElem b n D := by
  obtain ⟨es, clock, e1, e2, e3, e4⟩ := h
  exact ⟨es, clock, hb.trans e1, e2, e3, e4⟩
theorem SetT.again {w : World} {b : Nat} {pr : List Tx} {x : Tx} (h : SetT w b pr) (hx : x ∈ pr) : SetT w b (pr ++ [x]) := by
  obtain ⟨n, D, h1, h2, h3⟩ := h.map
  refine ⟨n, D, by rw [List.length_append]; omega, h2, fun s => ?_⟩
  rw [h3 s]
  congr 1
  rw [List.mem_append, List.mem_singleton]
  exact propext ⟨fun h => .inl h, fun h => h.elim id (fun e => e ▸ hx)⟩
theorem keeps_trans {B B' : Nat} {a b c : World} (h : KeepsFrom B a b) (k : KeepsFrom B' b c) (hB : B' ≤ B) : KeepsFrom B a c := ⟨Nat.le_trans h.size k.size, fun i o hi ho hc => k.same i o (by omega) (h.same i o hi ho hc) hc⟩
set_option maxHeartbeats 8000000 in
set_option maxRecDepth 100000 in
theorem distinct1_stops (X0 : Nat → Prop) (n : Nat) (h3 : 3 ≤ n) (gs gk gf : Nat) (lb : Array Value) (L : List Tx) (hLx : ∀ x ∈ L, x.length ≤ maxLen) (hLn : L.length < maxLen) (w : World)
    (eg : ∀ args w, (callFunc gf args).run Tryz.prog w = .ok (.enter gf args) w)
    (hs : w.heap[gs]? = some (.cells #[.func (.func gf) #[] lb] 90 (0, 0))) (hk : w.heap[gk]? = some (.cells #[.func (.func 41) #[] #[]] 80 (0, 0))) (hkB : ¬ X0 gk)
    (hseq : ∀ W, Below w.heap.size w W → SeqB 0 Fence.wide (n - 1) Tryz.prog gf lb encT (fun _ => Kc (fun k => X0 k ∧ k ≠ W.heap.size ∧ k ≠ W.heap.size + 2)) (fun ys => ys = L) (fun pre => pre <+: L) (fun pre x => pre ++ [x] <+: L) w) :
    SeqB 2 Fence.wide n Tryz.prog 88 #[.pointer (some ⟨gs, 0, none⟩), .pointer (some ⟨gk, 0, none⟩)] encT (fun B => Kc (fun k => X0 k ∧ k ≠ B ∧ k ≠ B + 2)) (fun ys => ys = dis [] L) (fun pre => pre <+: dis [] L) (fun pre x => pre ++ [x] <+: dis [] L) w := fun l J Jx V hV hJ hJx hYY hJ0 => by
  have hs0 := hV.size
  have cS := cell_row ((hV.block gs (Array.getElem?_eq_some_iff.1 hs).1).trans hs) 0 (v := .func (.func gf) #[] lb) rfl
  have hkV : Hid (V.heap[gk]? = some (.cells #[.func (.func 41) #[] #[]] 80 (0, 0))) := (hV.block gk (Array.getElem?_eq_some_iff.1 hk).1).trans hk
  have hkl := (Array.getElem?_eq_some_iff.1 hk).1
  have hsl := (Array.getElem?_eq_some_iff.1 hs).1
  have hsq := hide (hseq V hV)
  replace hYY := hide hYY
  replace hJ := hide hJ
  replace hJx := hide hJx
  replace hJ0 := hide hJ0
  replace hLx := hide hLx
  replace hLn := hide hLn
  have hVH := hide hV
  clear hs hk hseq hV
  show CallsIn Fence.wide n Tryz.prog 88 #[.func (.yield l) #[] #[], .pointer (some ⟨gs, 0, none⟩), .pointer (some ⟨gk, 0, none⟩)] V _
  have hmm := @run_makeMap Tryz.prog
  refine callsIn_of_wp_marks Tryz.func88 rfl trivial ?_ rfl
  simp only [Tryz.ntmps88, List.size_toArray, List.length_cons, List.length_nil, Nat.reduceAdd, Nat.reduceSub, Array.replicate_succ, Array.replicate_zero, List.push_toArray, List.append_toArray, List.nil_append, List.cons_append]
  gi_wp2_with (first | ((with_reducible refine atI_box 81 ?_); refine wlI_box81 wide_fn rfl ?_; intro gy w1 ey hy1 B1 s1; replace hy1 := hide hy1; replace B1 := hide B1) | ((with_reducible refine atI_alloc 102 ?_); refine wlI_alloc102 wide_fn ?_; intro gt w3 et ht3 B3 s3) | ((with_reducible refine atI_store 102 ?_); refine wlI_st102 wide_fn ht3 rfl rfl ?_; intro w4 ht4 B4 s4; replace ht4 := hide ht4; (have bV4 : Below V.heap.size V w4 := ((B1.out.trans (((Below.refl _ w1).alloc (Nat.le_refl _) (.map #[] 0)).mono (by omega))).trans (B3.mono (by simp; omega))).trans (B4.below (B := V.heap.size) (by simp at s3; omega) (fun k e => by simp at et; omega))); (have cS4 := (bV4.cell (p := ⟨gs, 0, none⟩) (by show gs < V.heap.size; omega)).trans cS)) | ((with_reducible refine atI_load 90 ?_); refine wlI_load 90 wide_fn rfl (ld90 cS4) ?_))
  have sa : (w1.alloc (Obj.map #[] 0)).heap.size = w1.heap.size + 1 := by simp
  have sz4 : w4.heap.size = V.heap.size + 3 := by omega
  have egt : gt = V.heap.size + 1 + 1 := by omega
  subst ey
  subst egt
  have y4 : w4.heap[V.heap.size]? = some (.cells #[.func (.yield l) #[] #[]] 81 (0, 0)) := ((B4.block _ (by omega) (fun e => by omega)).trans ((B3.block _ (by omega)).trans (Below.heap_alloc _ _ _ (by omega)))).trans hy1.out
  have m4 : SetT w4 (V.heap.size + 1) [] := by
    have := setT_made w1
    rw [s1] at this
    exact this.block ((B4.block _ (by omega) (fun e => by omega)).trans (B3.block _ (by omega)))
  obtain ⟨X, hXd⟩ : ∃ X : Nat → Prop, X = fun k => X0 k ∧ k ≠ V.heap.size ∧ k ≠ V.heap.size + 2 := ⟨_, rfl⟩
  rw [← hXd] at hsq hYY
  have nX : ∀ k, X k → X0 k ∧ k ≠ V.heap.size ∧ k ≠ V.heap.size + 2 := fun k h => by rw [hXd] at h; exact h
  have I0 : DsI X V V.heap.size (V.heap.size + 1 + 1) (V.heap.size + 1) l [] w4 := ⟨Kc.below bV4 (Nat.le_refl _), y4, ht4.out, m4⟩
  have J0 : J [] w4 := own_below hJ.out hJ0.out bV4
  have hy1X : ¬ X V.heap.size := fun h => (nX _ h).2.1 rfl
  have hgtX : ¬ X (V.heap.size + 1 + 1) := fun h => (nX _ h).2.2 rfl
  replace hXd := hide hXd
  replace nX := hide nX
  replace y4 := hide y4
  have hb0 := hVH.out.trans (bV4.mono hVH.out.size)
  clear B4 B3 cS4 cS m4 et sa s1 s3 s4
  replace sz4 := hide sz4
  refine wpIn_rangeB rfl (by omega) (gf := gf) (lb := lb) rfl (wide_fn gf) eg hsq.out
    (fun h k => h.trans k) (fun Wd l o o' hl ho hc _ => ⟨by simp [World.putObj], fun k cs t fr _ e => (World.putObj_heap_other (fun h => by rw [h, ho] at e; cases e; cases hc)).trans e⟩)
    hb0 (fun _ => rfl)
    (fun pr Wd => ∃ xs, xs = dis [] pr ∧ J xs Wd ∧ DsI X V V.heap.size (V.heap.size + 1 + 1) (V.heap.size + 1) l pr Wd)
    (fun cc pr Wd => cc = .ret ∧ ∃ p, p <+: dis [] L ∧ Jx p Wd)
    (fun pr Wd Wd' row hs hg' hr => by
      obtain ⟨xs, e1, e2, e3⟩ := hs
      exact ⟨xs, e1, own_up hJ.out (by have := sz4.out; omega) _ _ _ _ e2 hg' hr, e3.kc2 (kc_grown hg' hr) hy1X hgtX (hg'.block _ e3.s.lt (fun e => by have := (hr _ e.symm).1; have := sz4.out; omega))⟩)
    (fun cc pr Wd Wd' row hs hg' hr => ⟨hs.1, hs.2.elim fun p hp => ⟨p, hp.1, own_up hJx.out (by have := sz4.out; omega) _ _ _ _ hp.2 hg' hr⟩⟩) ⟨[], rfl, J0, I0⟩
    (fun x a' Wd => ∃ (u6 u7 u8 u9 u10 u11 u12 u13 u14 u15 u16 u17 u18 u19 u20 u21 u22 u23 u24 u25 u26 u27 u28 : Value), a' = { tmps := #[.func (.yield l) #[] #[], .pointer (some ⟨gs, 0, none⟩), .pointer (some ⟨gk, 0, none⟩), .pointer (some ⟨V.heap.size, 0, none⟩), .pointer (some ⟨V.heap.size + 1 + 1, 0, none⟩), encStr x, u6, u7, u8, u9, u10, u11, u12, u13, u14, u15, u16, u17, u18, u19, u20, u21, u22, u23, u24, u25, u26, u27, u28], defers := [] })
    (fun x a' _ Wd Wd' row hs hg' hr => hs) ?assign ?body ?done ?stop
  case assign =>
    intro l2 pr x Wd K hi hK
    simp only [encT, List.zip_toArray, List.zip_cons_cons, List.zip_nil_left, List.zip_nil_right, List.foldl_toArray, List.foldl_cons, List.foldl_nil, List.setIfInBounds_toArray, List.set_cons_zero, List.set_cons_succ]
    replace hK := hide hK
    replace hi := hide hi
    gi_wp2
    exact hK.out _ Wd ⟨Nat.le_refl _, fun _ _ _ h _ => h⟩ (Kc.refl _ _) hi.out ⟨_, _, _, _, _, _, _, _, _, _, _, _, _, _, _, _, _, _, _, _, _, _, _, rfl⟩
  case body =>
    rintro l2 pr x a' Wd hl ⟨r, hr⟩ ⟨xs, hxs, hj, hd⟩ ⟨u6, u7, u8, u9, u10, u11, u12, u13, u14, u15, u16, u17, u18, u19, u20, u21, u22, u23, u24, u25, u26, u27, u28, rfl⟩ hY hsz
    have cK := cell_row (hd.kc.2 gk _ _ _ (fun h => hkB (nX.out _ h).1) hkV.out) 0 (v := .func (.func 41) #[] #[]) rfl
    have hxL : x ∈ L := hY.subset (by simp)
    have hxm := hLx.out x hxL
    have hkey := hkey9 hxm
    have hprn : pr.length < maxLen := by have := hY.length_le; have := hLn.out; simp at *; omega
    obtain ⟨nn, D, hnn, hown, hhas⟩ := hd.s.map
    have cT := cell_row hd.t 0 (v := .map (some (V.heap.size + 1))) rfl
    replace hr := hide hr
    have hjH := hide hj
    have hdH := hide hd
    replace hxs := hide hxs
    have hYp := hide hY
    replace hown := hide hown
    replace hhas := hide hhas
    clear hj hd hY
    gi_wp2_with (first | ((with_reducible refine atI_load 80 ?_); refine wlI_load 80 (round_fn l2) rfl (ld80 cK) ?_))
    refine ⟨trivial, fun h => (by cases h), (itself_in _ _ _).mono ?_⟩
    rintro e Wk ⟨rfl, rfl⟩
    cases hin : decide (x ∈ pr) with
    | true =>
      have hin2 : x ∈ pr := of_decide_eq_true hin
      have hh := hhas.out x
      rw [hin] at hh
      replace hin := hide hin
      gi_wp2_with (first | ((with_reducible refine atI_load 102 ?_); refine wlI_load 102 (round_fn l2) rfl (ld102 cT) ?_) | (gi_at_lookup; refine wpListIn_lookup_own_unit _ rfl (.tmp 16) (.tmp 17) 102 rfl 9 103 law9 Tryz.underlying102 (zero103 _) _ nn D rfl hown.out _ (txkey x) rfl hkey ?_; rw [hh]) | ((with_reducible refine atI_alloc 103 ?_); refine wlI_alloc103 (round_fn l2) ?_; intro g7 w7 e7 h7 B7; clear h7; replace B7 := hide B7) | ((with_reducible refine atI_store 103 ?_); refine wlI_st103 (round_fn l2) rfl rfl ?_))
      refine ⟨keeps_below B7.out, Kc.below B7.out (Nat.le_refl _), xs, ?_, own_below hJ.out hjH.out B7.out, ?_⟩
      · rw [dis_snoc, if_pos (.inr hin2)]; exact hxs.out
      · have d7 := hdH.out.kc2 (Kc.below B7.out (Nat.le_refl _)) hy1X hgtX (B7.out.block _ hdH.out.s.lt)
        exact ⟨d7.kc, d7.y, d7.t, d7.s.again hin2⟩
    | false =>
      have hin2 : ¬ x ∈ pr := of_decide_eq_false hin
      have hds : xs ++ [x] = dis [] (pr ++ [x]) := by rw [dis_snoc, if_neg (by simpa using hin2), ← hxs.out]
      have hy8 : ∀ (w7 w8 : World), Below Wk.heap.size Wk w7 → w7.grownBy w8 (some (V.heap.size + 1)) → YieldAt Fence.wide (n - 1 - 1 - 1) Tryz.prog l (encT x) w8 fun e W' =>
          KeepsFrom V.heap.size w8 W' ∧ ((e = .returned (.bool true) ∧ J (xs ++ [x]) W' ∧ Kc X w8 W') ∨ (e = .returned (.bool false) ∧ Jx (xs ++ [x]) W')) := fun w7 w8 B7 hg8 => by
        have j7 := own_below hJ.out hjH.out B7
        obtain ⟨o, ho1, ho2⟩ := hdH.out.s.obj
        have j8 : J xs w8 := hJ.out _ _ _ _ j7 hg8 (fun r e => by cases e; exact ⟨by omega, o, (B7.block _ hdH.out.s.lt).trans ho1, ho2⟩)
        have hsz8 : V.heap.size + 2 ≤ w8.heap.size := by have := hg8.size; have := B7.size; have := sz4.out; omega
        exact yield_wide (hYY.out xs x w8 j8 (by rw [hds]; exact dis_prefix hYp.out []) hsz8)
      replace hy8 := hide hy8
      replace hds := hide hds
      have hh := hhas.out x
      rw [hin] at hh
      replace hin := hide hin
      replace hin2 := hide hin2
      gi_wp2_with (first | ((with_reducible refine atI_load 102 ?_); refine wlI_load 102 (round_fn l2) rfl (ld102 cT) ?_) | (gi_at_lookup; refine wpListIn_lookup_own_unit _ rfl (.tmp 16) (.tmp 17) 102 rfl 9 103 law9 Tryz.underlying102 (zero103 _) _ nn D rfl hown.out _ (txkey x) rfl hkey ?_; rw [hh]) | ((with_reducible refine atI_alloc 103 ?_); refine wlI_alloc103 (round_fn l2) ?_; intro g7 w7 e7 h7 B7; clear h7; replace B7 := hide B7; (have hown7 := hide (ownsMap_block hown.out (B7.out.block _ hdH.out.s.lt))); (have cT7 := cell_row ((B7.out.block _ (Array.getElem?_eq_some_iff.1 hdH.out.t).1).trans hdH.out.t) 0 (v := .map (some (V.heap.size + 1))) rfl)) | ((with_reducible refine atI_store 103 ?_); refine wlI_st103 (round_fn l2) rfl rfl ?_) | ((with_reducible refine atI_load 102 ?_); refine wlI_load 102 (round_fn l2) rfl (ld102 cT7) ?_) | (gi_at_mapUpdate; refine wpListIn_mapUpdate_own _ rfl (.tmp 22) (.tmp 23) (.tmp 24) 102 rfl 9 103 law9 Tryz.underlying102 unitElem _ nn D rfl hown7.out (by omega) _ _ (txkey x) rfl rfl hkey (.agg []) [] unitElem_mk ?_; intro w8 hown8 hg8; replace hown8 := hide hown8; replace hg8 := hide hg8; (obtain ⟨fn, tmps, assign, body, hy, hR⟩ := hy8.out w7 w8 B7.out hg8.out); simp only [encT, encStr] at hy; (have cy8 := cell_row ((hg8.out.block _ (by have := B7.out.size; have := (Array.getElem?_eq_some_iff.1 hdH.out.y).1; omega) (fun e => by simp at e)).trans ((B7.out.block _ (Array.getElem?_eq_some_iff.1 hdH.out.y).1).trans hdH.out.y)) 0 (v := .func (.yield l) #[] #[]) rfl)) | ((with_reducible refine atI_load 81 ?_); refine wlI_load 81 (round_fn l2) rfl (ld81 cy8) ?_))
      have y8 : Hid (w8.heap[V.heap.size]? = some (.cells #[.func (.yield l) #[] #[]] 81 (0, 0))) := (hg8.out.block _ (by have := B7.out.size; have := (Array.getElem?_eq_some_iff.1 hdH.out.y).1; omega) (fun e => by simp at e)).trans ((B7.out.block _ (Array.getElem?_eq_some_iff.1 hdH.out.y).1).trans hdH.out.y)
      have t8 : Hid (w8.heap[V.heap.size + 1 + 1]? = some (.cells #[.map (some (V.heap.size + 1))] 102 (0, 0))) := (hg8.out.block _ (by have := B7.out.size; have := (Array.getElem?_eq_some_iff.1 hdH.out.t).1; omega) (fun e => by simp at e)).trans ((B7.out.block _ (Array.getElem?_eq_some_iff.1 hdH.out.t).1).trans hdH.out.t)
      have m8 : Hid (SetT w8 (V.heap.size + 1) (pr ++ [x])) := ⟨nn + 1, _, by rw [List.length_append]; simp; omega, hown8.out, fun s => by
        by_cases e : s = x
        · subst e
          rw [has_put_same hown7.out.isMap (show WideAt.IsKeyLit (txkey s) from trivial), decide_eq_true (by simp)]
        · rw [has_put_other (fun h => e (by simpa using h)), hhas.out s]
          congr 1
          rw [List.mem_append, List.mem_singleton]
          exact propext ⟨fun h => .inl h, fun h => h.elim id (fun h => absurd h e)⟩⟩
      have k8 : Hid (Kc X Wk w8) := (Kc.below B7.out (Nat.le_refl _)).trans ⟨hg8.out.size, fun k cs t fr _ h => (hg8.out.block k (Array.getElem?_eq_some_iff.1 h).1 (fun e => by
        cases e
        obtain ⟨o, ho1, ho2⟩ := hdH.out.s.obj
        rw [(B7.out.block _ hdH.out.s.lt).trans ho1] at h
        cases h
        cases ho2)).trans h⟩
      have f8 : Hid (KeepsFrom w4.heap.size Wk w8) := keeps_trans (keeps_below B7.out) ⟨hg8.out.size, fun k o hk ho _ => (hg8.out.block k (Array.getElem?_eq_some_iff.1 ho).1 (fun e => by cases e; have := sz4.out; omega)).trans ho⟩ (Nat.le_refl _)
      have s8 := hide m8.out.lt
      refine ⟨fun h => (by cases h), RoundIn.mono (F := Fence.wide.inRound l2) hR ?_⟩
      rintro e W3 ⟨k1, (⟨rfl, k2, k3⟩ | ⟨rfl, k2⟩)⟩
      · have fin : KeepsFrom w4.heap.size Wk W3 ∧ Kc X Wk W3 ∧ ∃ xs, xs = dis [] (pr ++ [x]) ∧ J xs W3 ∧ DsI X V V.heap.size (V.heap.size + 1 + 1) (V.heap.size + 1) l (pr ++ [x]) W3 := by
          obtain ⟨o, ho1, ho2⟩ := m8.out.obj
          refine ⟨keeps_trans f8.out k1 (by have := sz4.out; omega), k8.out.trans k3, _, hds.out, k2, ⟨hdH.out.kc.trans (k8.out.trans k3), k3.2 _ _ _ _ hy1X y8.out, k3.2 _ _ _ _ hgtX t8.out, m8.out.block ?_⟩⟩
          rw [ho1]
          exact k1.same _ o (by omega) ho1 ho2
        replace fin := hide fin
        clear k1 k2 k3
        gi_wp2
        exact fin.out
      · have fin : KeepsFrom w4.heap.size Wk W3 ∧ ∃ p, p <+: dis [] L ∧ Jx p W3 := ⟨keeps_trans f8.out k1 (by have := sz4.out; omega), _, by rw [hds.out]; exact dis_prefix hYp.out [], k2⟩
        replace fin := hide fin
        clear k1 k2
        gi_wp2
        exact ⟨fin.out.1, rfl, fin.out.2⟩
  case done =>
    rintro D xs Wd hD hS ⟨ys, hys, hj, hd⟩ hK
    rw [hS] at hys
    replace hys := hide hys
    replace hj := hide hj
    replace hd := hide hd
    replace hK := hide hK
    gi_wp2
    refine ⟨by simp, .inl ⟨_, _, rfl, run_takeDeferred hK.out, ?_⟩⟩
    refine ⟨_, results_none rfl _ _ _, ⟨_, rfl⟩, .inl ⟨ys, hys.out, hJ.out.putObj _ hj.out (by have := sz4.out; omega) hK.out rfl⟩⟩
  case stop =>
    rintro D cc pr Wd hD hS ⟨rfl, p, hp1, hp⟩ hK
    replace hp := hide hp
    replace hp1 := hide hp1
    replace hK := hide hK
    gi_wp2
    refine ⟨by simp, .inl ⟨_, _, rfl, run_takeDeferred hK.out, ?_⟩⟩
    refine ⟨_, results_none rfl _ _ _, ⟨_, rfl⟩, .inr ⟨p, hp1.out, hJx.out.putObj _ hp.out (by have := sz4.out; omega) hK.out rfl⟩⟩
end Go.Proofs.YtnffbmipllhjdaaGreatDoor.G

namespace Go.Proofs.YtnffbmipllhjdaaGreatDoor.G
open Go.RowKit Go.Shelf Go.Maps Go.WideMaps
set_option linter.unusedVariables false
set_option linter.unusedSimpArgs false
attribute [local go_sem] Oper.semAt_some
shelf_lay LaysPu.n25 Mp 25 at Tryz as Tryz.laysCL
shelf_lay_g SlLaysM.n6 Slgm 6 at Tryz 43 as Tryz.sort43

theorem clone90 (s : ByteArray) (w : World) (h : s.size ≤ 281474976710656) : Calls Tryz.prog 90 #[.string s] w fun e w' => e = .returned (.string s) ∧ Below w.heap.size w w' :=
  AnyPu.stringslite_Clone Tryz.laysCL s w h
set_option maxHeartbeats 400000 in
theorem clone_any (s : ByteArray) (w : World) (h : s.size ≤ 281474976710656) : Calls Tryz.prog 42 #[.string s] w fun e w' => e = .returned (.string s) ∧ Below w.heap.size w w' := by
  have H := hide (clone90 s w h)
  go_enter Tryz.func42, Tryz.ntmps42
  go_wp2_with fail
  refine H.out.mono ?_
  rintro e w1 ⟨rfl, B⟩
  replace B := hide B
  go_wp2_with fail
  go_ret
  exact ⟨rfl, B.out⟩
set_option maxHeartbeats 400000 in
theorem distinct_in (n : Nat) (v1 v2 : Value) (w : World) (h1 : ∃ f xs ys, v1 = .func f xs ys) (h2 : ∃ f xs ys, v2 = .func f xs ys) : CallsIn Fence.wide n Tryz.prog 39 #[v1, v2] w fun e w' => e = .returned (.func (.func 88) #[] #[.pointer (some ⟨w.heap.size, 0, none⟩), .pointer (some ⟨w.heap.size + 1, 0, none⟩)]) ∧ w' = (w.alloc (.cells #[v1] 90)).alloc (.cells #[v2] 80) := by
  obtain ⟨f1, x1, y1, rfl⟩ := h1
  obtain ⟨f2, x2, y2, rfl⟩ := h2
  have hmf : ∀ (fn : Fn) (first cap : Array Value) (w : World), (Instr.makeFunc fn first cap).run Tryz.prog w = .ok (.func fn first cap) w := fun _ _ _ _ => rfl
  refine callsIn_of_wp Tryz.func39 rfl trivial ?_ rfl
  simp only [Tryz.ntmps39, List.size_toArray, List.length_cons, List.length_nil, Nat.reduceAdd, Nat.reduceSub, Array.replicate_succ, Array.replicate_zero, List.push_toArray, List.append_toArray, List.nil_append, List.cons_append]
  gi_wp2
  go_ret
  exact ⟨by simp, rfl⟩
end Go.Proofs.YtnffbmipllhjdaaGreatDoor.G

namespace Go.Proofs.YtnffbmipllhjdaaGreatDoor.G
open Go.RowKit Go.Shelf
set_option linter.unusedVariables false
set_option linter.unusedSimpArgs false
attribute [local go_sem] Oper.semAt_some

theorem ld43 {w : World} {ad : Addr} {v : Value} (h : w.cell? ad = some v) : (loadVar 43 ad).run Tryz.prog w = .ok v w := by
  have ha : ∀ w, (isAgg 43).run Tryz.prog w = .ok false w := fun w => by kernel_rfl
  simp [loadVar, ha, go_sem, h]
section
variable {F : Fence} {n : Nat} {w w' : World} {ops : Array Oper} {o : Oper} {rest : List Oper} {a : Act} {K : Act → World → Prop} {E : Prop} {Q : Exit → Act → World → Prop} {dst : Option Nat} {x y : Operand} {ty : TypeId} {pos : String} {after : Array Edge}
theorem wpI_run {v : Value} (hF : ∀ f, F.fn f) (hgd : Region.wanted o (yielded ops a.tmps) = true) (hnd : ∀ c, o.op ≠ .defer c) (hr : (execOp a.eval o).run Tryz.prog w = .ok (.value v) w') (h : K (a.put o.dst v) w') : if Region.wanted o (yielded ops a.tmps) = true then Oper.wpIn F n Tryz.prog o a w K Q else E := by
  rw [if_pos hgd]
  unfold Oper.wpIn
  refine ⟨fun f _ => hF f, ?_⟩
  rw [Oper.semAt_plain F _ _ hnd, hr]
  exact h
theorem wpI_run2 (hF : ∀ f, F.fn f) (hgd : Region.wanted o (yielded ops a.tmps) = true) (hnd : ∀ c, o.op ≠ .defer c) (hr : (execOp a.eval o).run Tryz.prog w = .ok .skip w') (h : K (a.put o.dst undef) w') : if Region.wanted o (yielded ops a.tmps) = true then Oper.wpIn F n Tryz.prog o a w K Q else E := by
  rw [if_pos hgd]
  unfold Oper.wpIn
  refine ⟨fun f _ => hF f, ?_⟩
  rw [Oper.semAt_plain F _ _ hnd, hr]
  exact h
theorem bs43 (ev : Operand → Value) {s : ByteArray} (hx : ev x = .string s) (w : World) : (execOp ev ⟨dst, .buildSlice 43 1 #[(0, x)], ty, pos, after, none⟩).run Tryz.prog w = .ok (.value (.slice (some ⟨w.heap.size, 0, none⟩) 1 1)) (w.alloc (.cells #[.string s] 9)) := by
  unfold execOp
  simp only [List.map_toArray, List.map_cons, List.map_nil, hx]
  kernel_rfl
theorem app43 {ev : Operand → Value} {v v1 v6 : Value} {w6 : World} (hx : ev x = v) (hy : ev y = v1) (hr : (Builtin.append_ #[43, 43] 43 #[v, v1]).run Tryz.prog w = .ok v6 w6) : (execOp ev ⟨dst, .call { callee := .builtin .append, args := #[x, y], argTypes := #[43, 43] }, 43, pos, after, none⟩).run Tryz.prog w = .ok (.value v6) w6 := by
  simp [execOp, resolve, invoke, builtin, hx, hy, hr, Result.andThen]
theorem st43 {ev : Operand → Value} {ad : Addr} {v6 : Value} (hx : ev x = .pointer (some ad)) (hy : ev y = v6) (hr : (storeVar 43 ad v6).run Tryz.prog w = .ok () w') : (execOp ev ⟨dst, .store 43 x y, ty, pos, after, none⟩).run Tryz.prog w = .ok .skip w' := by
  unfold execOp
  simp only [hx, hy, Instr.storeAt, Instr.sureAddr, Sem.run_bind, Sem.run_pure, Result.andThen_ok, hr]
end
set_option maxHeartbeats 4000000 in
set_option maxRecDepth 100000 in
theorem reg13 (l0 n0 : Nat) (w : World) (g3 : Nat) (v : Value) (s : ByteArray) (hsz : s.size ≤ 281474976710656) (hv0 : w.heap[g3]? = some (.cells #[v] 43 (0, 0))) (Fin : World → Prop) (hpush0 : ∀ w4, Below w.heap.size w w4 → ∃ v6 w6, (Builtin.append_ #[43, 43] 43 #[v, .slice (some ⟨w4.heap.size, 0, none⟩) 1 1]).run Tryz.prog (w4.alloc (.cells #[.string s] 9)) = .ok v6 w6 ∧ v6.oneCell' = true ∧ (storeVar 43 ⟨g3, 0, none⟩ v6).run Tryz.prog w6 = .ok () (w6.setCell ⟨g3, 0, none⟩ v6) ∧ Fin (w6.setCell ⟨g3, 0, none⟩ v6))
    (u0 u1 u2 u5 u6 u7 u8 u9 u10 u11 u12 u13 u14 u15 u16 : Value) (Q : Exit → Act → World → Prop)
    (h : ∀ (w4 : World) (v6 : Value) (w' : World), Fin w' → Q .normal { tmps := (List.toArray ((u0 :: u1 :: u2 :: .pointer (some ⟨g3, 0, none⟩) :: .string s :: u5 :: u6 :: u7 :: u8 :: v :: .string s :: .string s :: .slice (some ⟨w4.heap.size, 0, none⟩) 1 1 :: v6 :: u14 :: u15 :: u16 :: []) : List Value)), defers := [] } w') :
    (Code.region 4 #[{ dst := some 9, op := Op.load 43 (Operand.tmp 3), type := 43, pos := "gram.go:28", after := #[], guard := none }, { dst := some 10, op := Op.move (Operand.tmp 4), type := 9, pos := "gram.go:28", after := #[], guard := none }, { dst := some 11, op := Op.call { callee := Callee.value (Operand.func 42), args := #[Operand.tmp 10], argTypes := #[9] }, type := 9, pos := "gram.go:28", after := #[{ on := 1, ground := Ground.data }], guard := none }, { dst := some 12, op := Op.buildSlice 43 1 #[(0, Operand.tmp 11)], type := 43, pos := "gram.go:28", after := #[{ on := 2, ground := Ground.data }], guard := none }, { dst := some 13, op := Op.call { callee := Callee.builtin Builtin.append, args := #[Operand.tmp 9, Operand.tmp 12], argTypes := #[43, 43] }, type := 43, pos := "gram.go:28", after := #[{ on := 0, ground := Ground.data }, { on := 3, ground := Ground.data }, { on := 2, ground := Ground.chain }], guard := none }, { dst := none, op := Op.store 43 (Operand.tmp 3) (Operand.tmp 13), type := 0, pos := "gram.go:28", after := #[{ on := 4, ground := Ground.data }, { on := 4, ground := Ground.chain }, { on := 0, ground := Ground.phase }, { on := 1, ground := Ground.phase }, { on := 2, ground := Ground.phase }, { on := 3, ground := Ground.phase }, { on := 4, ground := Ground.phase }], guard := none }] true).wpIn (Fence.wide.inRound l0) n0 Tryz.prog Q { tmps := (List.toArray ((u0 :: u1 :: u2 :: .pointer (some ⟨g3, 0, none⟩) :: .string s :: u5 :: u6 :: u7 :: u8 :: u9 :: u10 :: u11 :: u12 :: u13 :: u14 :: u15 :: u16 :: []) : List Value)), defers := [] } w := by
  have hD : Below w.heap.size w w.drew := (Below.refl _ w).drew
  have hpush := hide hpush0
  have hv : Hid (∀ w1, Below w.heap.size w w1 → w1.heap[g3]? = some (.cells #[v] 43 (0, 0))) := fun w1 hb => (hb.block g3 (Array.getElem?_eq_some_iff.1 hv0).1).trans hv0
  clear hpush0 hv0
  replace h := hide h
  refine Code.wpIn_mono NoPanic.imp ?_
  refine wpIn_region_any (by kernel_rfl) ?_
  change wpAnyIn _ _ _ _ _ _ _ _ _ (World.drew w)
  refine anyIn_inRound l0 (noDefer _ (by kernel_rfl)) _ _ _ _ ?_
  refine wpAnyIn_take (i := 1) (oi := { dst := some 10, op := Op.move (Operand.tmp 4), type := 9, pos := "gram.go:28", after := #[], guard := none }) (v := ?_) rfl rfl (by kernel_rfl) (by kernel_rfl) (by kernel_rfl) (fun _ _ _ h => h) ⟨Or.inl ⟨by rfl, ?_⟩, fun _ => rfl⟩ ?_
  rotate_left
  · intro w'
    go_simp
    try with_reducible rfl
  try simp only [Act.put, List.setIfInBounds_toArray, List.set_cons_zero, List.set_cons_succ]
  refine wpAnyIn_ready (rs := [0, 2]) (by kernel_rfl) (by simp) ?_
  refine (AllReadyIn.cons (o := { dst := some 9, op := Op.load 43 (Operand.tmp 3), type := 43, pos := "gram.go:28", after := #[], guard := none }) rfl (fun K0 hK0 => ?_) (AllReadyIn.cons (o := { dst := some 11, op := Op.call { callee := Callee.value (Operand.func 42), args := #[Operand.tmp 10], argTypes := #[9] }, type := 9, pos := "gram.go:28", after := #[{ on := 1, ground := Ground.data }], guard := none }) rfl (fun K2 hK2 => ?_) AllReadyIn.nil))
  · refine wpI_ldg 43 wide_fn rfl (by rfl) rfl (ld43 (cell_row (hv.out _ hD) 0 rfl)) (hK0 _ _ ?_)
    clear hK0 K0
    try simp only [Act.put, List.setIfInBounds_toArray, List.set_cons_zero, List.set_cons_succ]
    refine wpAnyIn_ready (rs := [2]) (by kernel_rfl) (by simp) ?_
    refine (AllReadyIn.cons (o := { dst := some 11, op := Op.call { callee := Callee.value (Operand.func 42), args := #[Operand.tmp 10], argTypes := #[9] }, type := 9, pos := "gram.go:28", after := #[{ on := 1, ground := Ground.data }], guard := none }) rfl (fun K2 hK2 => ?_) AllReadyIn.nil)
    go_simp
    refine ⟨trivial, fun h => (by cases h), (callsIn_wide.2 (clone_any _ _ hsz)).mono ?_⟩
    rintro e w4 ⟨rfl, B4⟩
    have E4 : Below w.heap.size w w4 := hD.trans B4
    clear B4
    refine hK2 _ _ ?_
    clear hK2 K2
    try simp only [Act.put, List.setIfInBounds_toArray, List.set_cons_zero, List.set_cons_succ]
    refine wpAnyIn_ready (rs := [3]) (by kernel_rfl) (by simp) ?_
    refine (AllReadyIn.cons (o := { dst := some 12, op := Op.buildSlice 43 1 #[(0, Operand.tmp 11)], type := 43, pos := "gram.go:28", after := #[{ on := 2, ground := Ground.data }], guard := none }) rfl (fun K3 hK3 => ?_) AllReadyIn.nil)
    refine wpI_run wide_fn (by rfl) (fun c => nofun) (bs43 _ rfl _) (hK3 _ _ ?_)
    have E5 := (E4.trans (((Below.refl _ w4).alloc (Nat.le_refl _) (.cells #[.string s] 9)).mono E4.size))
    clear hK3 K3
    try simp only [Act.put, List.setIfInBounds_toArray, List.set_cons_zero, List.set_cons_succ]
    refine wpAnyIn_ready (rs := [4]) (by kernel_rfl) (by simp) ?_
    refine (AllReadyIn.cons (o := { dst := some 13, op := Op.call { callee := Callee.builtin Builtin.append, args := #[Operand.tmp 9, Operand.tmp 12], argTypes := #[43, 43] }, type := 43, pos := "gram.go:28", after := #[{ on := 0, ground := Ground.data }, { on := 3, ground := Ground.data }, { on := 2, ground := Ground.chain }], guard := none }) rfl (fun K4 hK4 => ?_) AllReadyIn.nil)
    obtain ⟨v6, w6, hr6, hc6, hp6⟩ := hpush.out w4 E4
    refine wpI_run wide_fn (by rfl) (fun c => nofun) (app43 rfl rfl hr6) (hK4 _ _ ?_)
    clear hK4 K4
    try simp only [Act.put, List.setIfInBounds_toArray, List.set_cons_zero, List.set_cons_succ]
    refine wpAnyIn_ready (rs := [5]) (by kernel_rfl) (by simp) ?_
    refine (AllReadyIn.cons (o := { dst := none, op := Op.store 43 (Operand.tmp 3) (Operand.tmp 13), type := 0, pos := "gram.go:28", after := #[{ on := 4, ground := Ground.data }, { on := 4, ground := Ground.chain }, { on := 0, ground := Ground.phase }, { on := 1, ground := Ground.phase }, { on := 2, ground := Ground.phase }, { on := 3, ground := Ground.phase }, { on := 4, ground := Ground.phase }], guard := none }) rfl (fun K5 hK5 => ?_) AllReadyIn.nil)
    refine wpI_run2 wide_fn (by rfl) (fun c => nofun) (st43 rfl rfl hp6.1) (hK5 _ _ ?_)
    clear hK5 K5
    try simp only [Act.put, List.setIfInBounds_toArray, List.set_cons_zero, List.set_cons_succ]
    refine wpAnyIn_done (by kernel_rfl) ?_ _
    refine NoPanic.normal ?_
    exact h.out _ _ _ hp6.2
  · go_simp
    refine ⟨trivial, fun h => (by cases h), (callsIn_wide.2 (clone_any _ _ hsz)).mono ?_⟩
    rintro e w4 ⟨rfl, B4⟩
    have E4 : Below w.heap.size w w4 := hD.trans B4
    clear B4
    refine hK2 _ _ ?_
    clear hK2 K2
    try simp only [Act.put, List.setIfInBounds_toArray, List.set_cons_zero, List.set_cons_succ]
    refine wpAnyIn_ready (rs := [0, 3]) (by kernel_rfl) (by simp) ?_
    refine (AllReadyIn.cons (o := { dst := some 9, op := Op.load 43 (Operand.tmp 3), type := 43, pos := "gram.go:28", after := #[], guard := none }) rfl (fun K0 hK0 => ?_) (AllReadyIn.cons (o := { dst := some 12, op := Op.buildSlice 43 1 #[(0, Operand.tmp 11)], type := 43, pos := "gram.go:28", after := #[{ on := 2, ground := Ground.data }], guard := none }) rfl (fun K3 hK3 => ?_) AllReadyIn.nil))
    · refine wpI_ldg 43 wide_fn rfl (by rfl) rfl (ld43 (cell_row (hv.out _ E4) 0 rfl)) (hK0 _ _ ?_)
      clear hK0 K0
      try simp only [Act.put, List.setIfInBounds_toArray, List.set_cons_zero, List.set_cons_succ]
      refine wpAnyIn_ready (rs := [3]) (by kernel_rfl) (by simp) ?_
      refine (AllReadyIn.cons (o := { dst := some 12, op := Op.buildSlice 43 1 #[(0, Operand.tmp 11)], type := 43, pos := "gram.go:28", after := #[{ on := 2, ground := Ground.data }], guard := none }) rfl (fun K3 hK3 => ?_) AllReadyIn.nil)
      refine wpI_run wide_fn (by rfl) (fun c => nofun) (bs43 _ rfl _) (hK3 _ _ ?_)
      have E5 := (E4.trans (((Below.refl _ w4).alloc (Nat.le_refl _) (.cells #[.string s] 9)).mono E4.size))
      clear hK3 K3
      try simp only [Act.put, List.setIfInBounds_toArray, List.set_cons_zero, List.set_cons_succ]
      refine wpAnyIn_ready (rs := [4]) (by kernel_rfl) (by simp) ?_
      refine (AllReadyIn.cons (o := { dst := some 13, op := Op.call { callee := Callee.builtin Builtin.append, args := #[Operand.tmp 9, Operand.tmp 12], argTypes := #[43, 43] }, type := 43, pos := "gram.go:28", after := #[{ on := 0, ground := Ground.data }, { on := 3, ground := Ground.data }, { on := 2, ground := Ground.chain }], guard := none }) rfl (fun K4 hK4 => ?_) AllReadyIn.nil)
      obtain ⟨v6, w6, hr6, hc6, hp6⟩ := hpush.out w4 E4
      refine wpI_run wide_fn (by rfl) (fun c => nofun) (app43 rfl rfl hr6) (hK4 _ _ ?_)
      clear hK4 K4
      try simp only [Act.put, List.setIfInBounds_toArray, List.set_cons_zero, List.set_cons_succ]
      refine wpAnyIn_ready (rs := [5]) (by kernel_rfl) (by simp) ?_
      refine (AllReadyIn.cons (o := { dst := none, op := Op.store 43 (Operand.tmp 3) (Operand.tmp 13), type := 0, pos := "gram.go:28", after := #[{ on := 4, ground := Ground.data }, { on := 4, ground := Ground.chain }, { on := 0, ground := Ground.phase }, { on := 1, ground := Ground.phase }, { on := 2, ground := Ground.phase }, { on := 3, ground := Ground.phase }, { on := 4, ground := Ground.phase }], guard := none }) rfl (fun K5 hK5 => ?_) AllReadyIn.nil)
      refine wpI_run2 wide_fn (by rfl) (fun c => nofun) (st43 rfl rfl hp6.1) (hK5 _ _ ?_)
      clear hK5 K5
      try simp only [Act.put, List.setIfInBounds_toArray, List.set_cons_zero, List.set_cons_succ]
      refine wpAnyIn_done (by kernel_rfl) ?_ _
      refine NoPanic.normal ?_
      exact h.out _ _ _ hp6.2
    · refine wpI_run wide_fn (by rfl) (fun c => nofun) (bs43 _ rfl _) (hK3 _ _ ?_)
      have E5 := (E4.trans (((Below.refl _ w4).alloc (Nat.le_refl _) (.cells #[.string s] 9)).mono E4.size))
      clear hK3 K3
      try simp only [Act.put, List.setIfInBounds_toArray, List.set_cons_zero, List.set_cons_succ]
      refine wpAnyIn_ready (rs := [0]) (by kernel_rfl) (by simp) ?_
      refine (AllReadyIn.cons (o := { dst := some 9, op := Op.load 43 (Operand.tmp 3), type := 43, pos := "gram.go:28", after := #[], guard := none }) rfl (fun K0 hK0 => ?_) AllReadyIn.nil)
      refine wpI_ldg 43 wide_fn rfl (by rfl) rfl (ld43 (cell_row (hv.out _ E5) 0 rfl)) (hK0 _ _ ?_)
      clear hK0 K0
      try simp only [Act.put, List.setIfInBounds_toArray, List.set_cons_zero, List.set_cons_succ]
      refine wpAnyIn_ready (rs := [4]) (by kernel_rfl) (by simp) ?_
      refine (AllReadyIn.cons (o := { dst := some 13, op := Op.call { callee := Callee.builtin Builtin.append, args := #[Operand.tmp 9, Operand.tmp 12], argTypes := #[43, 43] }, type := 43, pos := "gram.go:28", after := #[{ on := 0, ground := Ground.data }, { on := 3, ground := Ground.data }, { on := 2, ground := Ground.chain }], guard := none }) rfl (fun K4 hK4 => ?_) AllReadyIn.nil)
      obtain ⟨v6, w6, hr6, hc6, hp6⟩ := hpush.out w4 E4
      refine wpI_run wide_fn (by rfl) (fun c => nofun) (app43 rfl rfl hr6) (hK4 _ _ ?_)
      clear hK4 K4
      try simp only [Act.put, List.setIfInBounds_toArray, List.set_cons_zero, List.set_cons_succ]
      refine wpAnyIn_ready (rs := [5]) (by kernel_rfl) (by simp) ?_
      refine (AllReadyIn.cons (o := { dst := none, op := Op.store 43 (Operand.tmp 3) (Operand.tmp 13), type := 0, pos := "gram.go:28", after := #[{ on := 4, ground := Ground.data }, { on := 4, ground := Ground.chain }, { on := 0, ground := Ground.phase }, { on := 1, ground := Ground.phase }, { on := 2, ground := Ground.phase }, { on := 3, ground := Ground.phase }, { on := 4, ground := Ground.phase }], guard := none }) rfl (fun K5 hK5 => ?_) AllReadyIn.nil)
      refine wpI_run2 wide_fn (by rfl) (fun c => nofun) (st43 rfl rfl hp6.1) (hK5 _ _ ?_)
      clear hK5 K5
      try simp only [Act.put, List.setIfInBounds_toArray, List.set_cons_zero, List.set_cons_succ]
      refine wpAnyIn_done (by kernel_rfl) ?_ _
      refine NoPanic.normal ?_
      exact h.out _ _ _ hp6.2
end Go.Proofs.YtnffbmipllhjdaaGreatDoor.G

namespace Go.Proofs.YtnffbmipllhjdaaGreatDoor.G
open Go.RowKit Go.Shelf Go.Maps Go.WideMaps Go.Sort
set_option linter.unusedVariables false
set_option linter.unusedSimpArgs false
attribute [local go_sem] Oper.semAt_some

theorem infoS9 : (Tryz.prog.info? 9).map (fun i => (i.zero, i.size, i.bytes)) = some (some (.string ByteArray.empty), 1, 16) := by kernel_rfl
/-- A box that holds a row of texts of one's own. -/
structure GrI (w0 : World) (g2 base : Nat) (pre : List Tx) (W : World) : Prop where
  row : ∃ v, W.heap[g2]? = some (.cells #[v] 43 (0, 0)) ∧ W.ownsRow base 9 1 v pre.length (pre.map encStr)
  bel : Below w0.heap.size w0 W
theorem ownT_one {w : World} {base n : Nat} {v : Value} {xs : List Value} (h : w.ownsRow base 9 1 v n xs) : v.oneCell' = true := by
  rcases h.2 with ⟨rfl, _⟩ | ⟨_, _, _, rfl, _⟩ <;> rfl
theorem ownsT_kept {w w' : World} {base n : Nat} {v : Value} {xs : List Value} (h : w.ownsRow base 9 1 v n xs) (hk : ∀ k cur, base ≤ k → w.heap[k]? = some (.cells cur 9 (0, 0)) → w'.heap[k]? = some (.cells cur 9 (0, 0))) : w'.ownsRow base 9 1 v n xs := by
  refine ⟨h.1, ?_⟩
  rcases h.2 with h1 | ⟨g, cap, cur, rfl, h2, h3, h4⟩
  · exact .inl h1
  · exact .inr ⟨g, cap, cur, rfl, h2, hk g cur h2 h3, h4⟩
theorem GrI.own {w0 : World} {g2 base B : Nat} {pre : List Tx} {W W' : World} {row : Option Nat} (h : GrI w0 g2 base pre W) (hB : w0.heap.size ≤ B) (hg : W.grownBy W' row) (hr : ∀ r, row = some r → B ≤ r ∧ ∃ o : Obj, W.heap[r]? = some o ∧ o.isCells = false) : GrI w0 g2 base pre W' := by
  have ne : ∀ g xs t, W.heap[g]? = some (.cells xs t (0, 0)) → some g ≠ row := fun g xs t h e => by
    obtain ⟨_, o, ho, hc⟩ := hr g e.symm
    rw [h] at ho
    cases ho
    cases hc
  obtain ⟨v, h1, h2⟩ := h.row
  exact ⟨⟨v, (hg.block g2 (Array.getElem?_eq_some_iff.1 h1).1 (ne _ _ _ h1)).trans h1, ownsT_kept h2 (fun k cur _ e => (hg.block k (Array.getElem?_eq_some_iff.1 e).1 (ne _ _ _ e)).trans e)⟩, h.bel.grown hg h.bel.size (fun k e => by have := (hr k e).1; omega)⟩
theorem one43 : ∀ w, (sizeOf 43).run Tryz.prog w = .ok 1 w := fun w => by kernel_rfl
/-- One text more: behind a call that left all as it was. -/
theorem GrI.push {w0 : World} {g2 base : Nat} {pre : List Tx} {W : World} {v : Value} (h1 : W.heap[g2]? = some (.cells #[v] 43 (0, 0))) (h2 : W.ownsRow base 9 1 v pre.length (pre.map encStr)) (hbel : Below w0.heap.size w0 W) (hg : g2 < base) (h0 : w0.heap.size ≤ g2) (hb : base ≤ W.heap.size + 1) (hl : pre.length ≤ 1000000000) (x : Tx) (W4 : World) (h4 : Below W.heap.size W W4) :
    ∃ v6 w6, (Builtin.append_ #[43, 43] 43 #[v, .slice (some ⟨W4.heap.size, 0, none⟩) 1 1]).run Tryz.prog (W4.alloc (.cells #[.string ⟨x.toArray⟩] 9)) = .ok v6 w6 ∧ v6.oneCell' = true ∧ (storeVar 43 ⟨g2, 0, none⟩ v6).run Tryz.prog w6 = .ok () (w6.setCell ⟨g2, 0, none⟩ v6) ∧
      (GrI w0 g2 base (pre ++ [x]) (w6.setCell ⟨g2, 0, none⟩ v6) ∧ But (fun k => k = g2 ∨ base ≤ k ∧ ∃ cur, W.heap[k]? = some (.cells cur 9 (0, 0))) W (w6.setCell ⟨g2, 0, none⟩ v6)) := by
  obtain ⟨i, hi, hz, hs, hby⟩ := info_parts infoS9
  have l2 := (Array.getElem?_eq_some_iff.1 h1).1
  have hs4 := h4.size
  have hold : ∀ b, b < W.heap.size → (W4.alloc (.cells #[.string ⟨x.toArray⟩] 9)).heap[b]? = W.heap[b]? := fun b hb => (Below.heap_alloc _ _ _ (by omega)).trans (h4.block b hb)
  have ho1 : (W4.alloc (.cells #[.string ⟨x.toArray⟩] 9)).ownsRow base 9 1 v pre.length (pre.map encStr) := ownsT_kept h2 (fun k cur _ e => (hold k (Array.getElem?_eq_some_iff.1 e).1).trans e)
  obtain ⟨v', w', r1, r2, r3, _, r5⟩ := run_append_own_at (P := Tryz.prog) (W4.alloc (.cells #[.string ⟨x.toArray⟩] 9)) base 43 43 9 i (.string ByteArray.empty) 1 16 Tryz.underlying43 hi hz hs hby rfl (by decide) v pre.length (pre.map encStr) ho1 ⟨W4.heap.size, 0, none⟩ 1 1 [.string ⟨x.toArray⟩] rfl (fun j u hj => by
    rw [add_plain, Nat.zero_add, cell_of_row _ _ _ _ _ _ (heap_alloc_new W4 _)]
    simpa using hj) (fun u hu => by rw [List.mem_singleton.1 hu]; rfl) (by unfold maxLen; omega) (by omega) (by simp; omega)
  have hvb : ∀ k, v.ownBlock = some k → base ≤ k ∧ ∃ cur, W.heap[k]? = some (.cells cur 9 (0, 0)) := fun k e => by
    rcases h2.2 with ⟨rfl, _⟩ | ⟨g, cap, cur, rfl, q1, q2, _⟩
    · cases e
    · cases e; exact ⟨q1, cur, q2⟩
  have hnw : ∀ k, k < W.heap.size → v.ownBlock ≠ some k → w'.heap[k]? = W.heap[k]? := fun k hk hn => (r3.block k (by simp; omega) (fun e => hn e.symm)).trans (hold k hk)
  have hv2 : v.ownBlock ≠ some g2 := fun e => by have := (hvb g2 e).1; omega
  have e2 := (hnw g2 l2 hv2).trans h1
  have ot : ∀ k, k ≠ g2 → (w'.setCell ⟨g2, 0, none⟩ v').heap[k]? = w'.heap[k]? := fun k hk => Below.heap_setCell w' ⟨g2, 0, none⟩ _ k hk
  have hsz := r3.size
  simp at hsz
  have hone := ownT_one r2
  have hB : But (fun k => k = g2 ∨ base ≤ k ∧ ∃ cur, W.heap[k]? = some (.cells cur 9 (0, 0))) W (w'.setCell ⟨g2, 0, none⟩ v') := ⟨by have a := r3.os; have b := h4.os; exact a.trans b, by have a := r3.tape; have b := h4.tape; exact a.trans b, by have a := r3.output; have b := h4.output; exact a.trans b, by simp [World.setCell]; omega, fun k hk hn => by
    rw [ot k (fun e => hn (.inl e))]
    exact hnw k hk (fun e => hn (.inr (hvb k e)))⟩
  have hst : (storeVar 43 ⟨g2, 0, none⟩ v').run Tryz.prog w' = .ok () (w'.setCell ⟨g2, 0, none⟩ v') := by
    have hc := cell_row e2 0 (v := v) rfl
    have hf := frozen_of_row w' g2 0 _ 43 e2
    have hcs : v'.cells = #[v'] := by cases v' <;> first | rfl | cases hone
    have e : (storeCells ⟨g2, 0, none⟩ [v']).run Tryz.prog w' = .ok () (w'.setCell ⟨g2, 0, none⟩ v') := by simp [storeCells, go_sem, run_store Tryz.prog w' _ v' _ hone, stored, hc, hf]
    unfold storeVar
    simp only [Sem.run_bind, one43, Result.andThen_ok, hcs]
    simpa using e
  refine ⟨v', w', r1, hone, hst, ⟨⟨v', heap_setCell_same w' g2 0 _ 43 _ e2, ?_⟩, ?_⟩, hB⟩
  · have := ownsT_kept (w' := w'.setCell ⟨g2, 0, none⟩ v') r2 (fun k cur hk e => (ot k (by omega)).trans e)
    simpa [encStr] using this
  · exact hbel.trans (hB.below (by have := hbel.size; omega) (fun k e => by have := hbel.size; omega))
end Go.Proofs.YtnffbmipllhjdaaGreatDoor.G

namespace Go.Proofs.YtnffbmipllhjdaaGreatDoor.G
open Go.RowKit Go.Shelf Go.Maps Go.WideMaps Go.Sort
set_option linter.unusedVariables false
set_option linter.unusedSimpArgs false
attribute [local go_sem] Oper.semAt_some

section
variable {F : Fence} {n : Nat} {w w' : World} {ops : Array Oper} {rest : List Oper} {a : Act} {Q : Exit → Act → World → Prop} {dst : Option Nat} {x y : Operand} {ty : TypeId} {pos : String} {after : Array Edge}
theorem wlI_alloc43 (hF : ∀ f, F.fn f) (h : ∀ g w', g = w.heap.size → w'.heap[g]? = some (.cells #[.slice none 0 0] 43 (0, 0)) → Below w.heap.size w w' → w'.heap.size = w.heap.size + 1 → wpListIn F n Tryz.prog ops Q rest (a.put dst (.pointer (some ⟨g, 0, none⟩))) w') : wpListIn F n Tryz.prog ops Q (⟨dst, .alloc 43, ty, pos, after, none⟩ :: rest) a w := by
  have e : (execOp a.eval ⟨dst, .alloc 43, ty, pos, after, none⟩).run Tryz.prog w = .ok (.value (.pointer (some ⟨w.heap.size, 0, none⟩))) (w.alloc (.cells #[.slice none 0 0] 43)) := by
    unfold execOp
    kernel_rfl
  exact wlI_val hF (fun c => nofun) e (h _ _ rfl (heap_alloc_new w _) ((Below.refl _ w).alloc (Nat.le_refl _) _) (by simp))
end
/-- slices.Sort of a row of one's own. -/
theorem sort_own {w : World} {base : Nat} {v : Value} {ss : List Tx} (h : w.ownsRow base 9 1 v ss.length (ss.map encStr)) (hl : ss.length ≤ 1000000000) :
    Calls Tryz.prog 43 #[v] w fun e w' => e = .returned (.tuple #[]) ∧ w'.ownsRow base 9 1 v (srt ss).length ((srt ss).map encStr) ∧ w.grownBy w' v.ownBlock := by
  rcases h.2 with ⟨rfl, h0⟩ | ⟨g, cap, cur, rfl, hb, hg, h1, h2, h3, ht⟩
  · obtain rfl : ss = [] := List.eq_nil_of_length_eq_zero h0
    refine (AnyM.slices_Sort_string_none Tryz.sort43 none 0 w).mono ?_
    rintro e w' ⟨rfl, rfl⟩
    refine ⟨rfl, by simpa [srt] using h, ⟨rfl, rfl, rfl, Nat.le_refl _, fun _ _ _ => rfl⟩⟩
  · rcases Nat.eq_zero_or_pos ss.length with h0 | hp
    · obtain rfl : ss = [] := List.eq_nil_of_length_eq_zero h0
      refine (AnyM.slices_Sort_string_none Tryz.sort43 (some ⟨g, 0, none⟩) cap w).mono ?_
      rintro e w' ⟨rfl, rfl⟩
      refine ⟨rfl, by simpa [srt] using h, ⟨rfl, rfl, rfl, Nat.le_refl _, fun _ _ _ => rfl⟩⟩
    · rw [Nat.mul_one] at ht
      refine (AnyM.slices_Sort_string Tryz.sort43 g 0 cap ss w (holds_of_block hg ht) (Array.getElem?_eq_some_iff.1 hg).1 (by omega)).mono ?_
      rintro e w' ⟨rfl, m, os, rfl⟩
      refine ⟨rfl, ?_, grownBy_sorted _⟩
      have := ownsRow_sorted (n := m) (os := os) (ts := srt ss) (srt_len ss) hb hg h1 h2 h3
      rw [srt_len]
      exact this
set_option maxHeartbeats 8000000 in
set_option maxRecDepth 100000 in
theorem gramsG_in (n : Nat) (hn : 5 ≤ n) (s : Tx) (hs : s.length ≤ 1000000) (w : World) :
    CallsIn Fence.wide n Tryz.prog 13 #[encStr s] w fun e w' => ∃ v, e = .returned v ∧ w'.ownsRow w.heap.size 9 1 v (gramsOf s).length ((gramsOf s).map encStr) ∧ Below w.heap.size w w' := by
  refine callsIn_of_wp_marks Tryz.func13 rfl trivial ?_ rfl
  simp only [Tryz.ntmps13, List.size_toArray, List.length_cons, List.length_nil, Nat.reduceAdd, Nat.reduceSub, Array.replicate_succ, Array.replicate_zero, List.push_toArray, List.append_toArray, List.nil_append, List.cons_append]
  gi_wp2_with (first | ((with_reducible refine atI_alloc 43 ?_); refine wlI_alloc43 wide_fn ?_; intro g3 w1 e3 h3 B1 s1; replace h3 := hide h3; replace B1 := hide B1))
  refine ⟨trivial, fun h => (by cases h), (grams_in _ s w1).mono ?_⟩
  rintro e w2 ⟨rfl, e2⟩
  have hB2 : Hid (w2.heap[w.heap.size + 1]? = some (.cells #[encStr s] 9 (0, 0))) := by
    show _ = _
    rw [e2, ← s1]; exact heap_alloc_new w1 _
  have B2 : Hid (Below w1.heap.size w1 w2) := by
    show Below _ _ _
    rw [e2]; exact (Below.refl _ w1).alloc (Nat.le_refl _) _
  have s2 : Hid (w2.heap.size = w.heap.size + 2) := by
    show _ = _
    rw [e2]; simp; omega
  clear e2
  gi_wp2
  refine ⟨trivial, fun h => (by cases h), (distinct_in _ _ _ w2 ⟨_, _, _, rfl⟩ ⟨_, _, _, rfl⟩).mono ?_⟩
  rintro e w3 ⟨rfl, e4⟩
  have hS3 : Hid (w3.heap[w2.heap.size]? = some (.cells #[.func (.func 89) #[] #[.pointer (some ⟨w.heap.size + 1, 0, none⟩)]] 90 (0, 0))) := by
    show _ = _
    rw [e4]; exact (Below.heap_alloc _ _ _ (by simp)).trans (heap_alloc_new w2 _)
  have hK3 : Hid (w3.heap[w2.heap.size + 1]? = some (.cells #[.func (.func 41) #[] #[]] 80 (0, 0))) := by
    show _ = _
    rw [e4]
    have := heap_alloc_new (w2.alloc (.cells #[.func (.func 89) #[] #[.pointer (some ⟨w.heap.size + 1, 0, none⟩)]] 90)) (.cells #[.func (.func 41) #[] #[]] 80)
    simpa using this
  have B3 : Hid (Below w2.heap.size w2 w3) := by
    show Below _ _ _
    rw [e4]; exact ((Below.refl _ w2).alloc (Nat.le_refl _) _).alloc (by simp) _
  have s3 : Hid (w3.heap.size = w.heap.size + 4) := by
    show _ = _
    have := s2.out
    rw [e4]; simp; omega
  clear e4
  gi_wp2
  have sw1 := s2.out
  have sw3 := s3.out
  subst e3
  have hB3 : w3.heap[w.heap.size + 1]? = some (.cells #[encStr s] 9 (0, 0)) := (B3.out.block _ (by omega)).trans hB2.out
  have hG3 : w3.heap[w.heap.size]? = some (.cells #[.slice none 0 0] 43 (0, 0)) := (B3.out.block _ (by omega)).trans ((B2.out.block _ (by omega)).trans h3.out)
  have bel3 : Below w.heap.size w w3 := (B1.out.trans (B2.out.mono (by omega))).trans (B3.out.mono (by omega))
  obtain ⟨X0, hX0⟩ : ∃ X0 : Nat → Prop, X0 = fun k => k = w.heap.size ∨ w3.heap.size ≤ k := ⟨_, rfl⟩
  have hwl := winds_len s
  have hst := distinct1_stops X0 (n - 1) (by omega) w2.heap.size (w2.heap.size + 1) 89 #[.pointer (some ⟨w.heap.size + 1, 0, none⟩)] (winds s) (fun x hx => by have := winds_three hx; unfold maxLen; omega) (by unfold maxLen; omega) w3 (enters_of Tryz.func89 (by kernel_rfl) rfl) hS3.out hK3.out (fun h => by rw [hX0] at h; rcases h with h | h <;> omega)
    (fun W hW => grams1_stops _ (n - 1 - 1) (by omega) (w.heap.size + 1) s (by omega) (fun h => by have h1 := h.1; rw [hX0] at h1; rcases h1 with h1 | h1 <;> omega) w3 hB3)
  have I0 : GrI w w.heap.size (w3.heap.size + 5) [] w3 := ⟨⟨_, hG3, rfl, .inl ⟨rfl, rfl⟩⟩, bel3⟩
  have hdl : (dis [] (winds s)).length ≤ 1000000 := Nat.le_trans (dis_le _ _) (by omega)
  replace hX0 := hide hX0
  clear B1 B2 B3 h3 hB2 hS3 hK3 hB3 hG3 s1 s2 s3
  replace bel3 := hide bel3
  replace hst := hide hst
  refine wpIn_rangeB rfl (by omega) (gf := 88) (lb := #[.pointer (some ⟨w2.heap.size, 0, none⟩), .pointer (some ⟨w2.heap.size + 1, 0, none⟩)]) rfl (wide_fn 88) (enters_of Tryz.func88 (by kernel_rfl) rfl) hst.out
    (fun h k => h.trans k) (fun Wd l o o' hl ho hc _ => ⟨by simp [World.putObj], fun k cs t fr _ e => (World.putObj_heap_other (fun h => by rw [h, ho] at e; cases e; cases hc)).trans e⟩)
    (Below.refl _ w3) (fun _ => rfl)
    (fun pr Wd => GrI w w.heap.size (w3.heap.size + 5) pr Wd)
    (fun _ _ _ => False)
    (fun pr Wd Wd' row hs hg hr => hs.own (by omega) hg hr)
    (fun _ _ _ _ _ hs _ _ => hs) I0
    (fun x a' Wd => ∃ (u0 u1 u2 u5 u6 u7 u8 u9 u10 u11 u12 u13 u14 u15 u16 : Value), a' = { tmps := #[u0, u1, u2, .pointer (some ⟨w.heap.size, 0, none⟩), encStr x, u5, u6, u7, u8, u9, u10, u11, u12, u13, u14, u15, u16], defers := [] })
    (fun x a' _ Wd Wd' row hs hg' hr => hs) ?assign ?body ?done ?stop
  case assign =>
    intro l2 pr x Wd K hi hK
    simp only [encT, List.zip_toArray, List.zip_cons_cons, List.zip_nil_left, List.zip_nil_right, List.foldl_toArray, List.foldl_cons, List.foldl_nil, List.setIfInBounds_toArray, List.set_cons_zero, List.set_cons_succ]
    replace hK := hide hK
    replace hi := hide hi
    gi_wp2
    exact hK.out _ Wd ⟨Nat.le_refl _, fun _ _ _ h _ => h⟩ (Kc.refl _ _) hi.out ⟨_, _, _, _, _, _, _, _, _, _, _, _, _, _, _, rfl⟩
  case body =>
    rintro l2 pr x a' Wd hl ⟨r, hr⟩ hI ⟨u0, u1, u2, u5, u6, u7, u8, u9, u10, u11, u12, u13, u14, u15, u16, rfl⟩ hY hsz
    obtain ⟨v, hv, ho⟩ := hI.row
    have hprl : pr.length ≤ 1000000 := by have := hY.length_le; simp at this; omega
    have hxl : x.length = 3 := winds_three ((mem_dis (winds s) [] x).1 (hY.subset (by simp))).1
    have hps := hide (fun w4 h4 => GrI.push hv ho hI.bel (by omega) (Nat.le_refl _) (by omega) (by omega) x w4 h4)
    have hvl := (Array.getElem?_eq_some_iff.1 hv).1
    replace hr := hide hr
    have hIH := hide hI
    have hvH := hide hv
    have hYH := hide hY
    clear hI hY ho
    gi_wp2
    refine reg13 l2 _ Wd w.heap.size v ⟨x.toArray⟩ (by show x.toArray.size ≤ _; rw [List.size_toArray, hxl]; omega) hvH.out (fun W' => GrI w w.heap.size (w3.heap.size + 5) (pr ++ [x]) W' ∧ But (fun k => k = w.heap.size ∨ w3.heap.size + 5 ≤ k ∧ ∃ cur, Wd.heap[k]? = some (.cells cur 9 (0, 0))) Wd W') hps.out _ _ _ _ _ _ _ _ _ _ _ _ _ _ _ _ (fun w4 v6 W' hF => ?_)
    obtain ⟨hg, hb⟩ := hF
    refine ⟨⟨hb.size, fun k o hk ho hcs => (hb.block k (Array.getElem?_eq_some_iff.1 ho).1 (fun h => by
      rcases h with h | ⟨_, cur, h⟩
      · omega
      · rw [ho] at h; cases h; cases hcs)).trans ho⟩, ⟨hb.size, fun k cs t fr hX e => (hb.block k (Array.getElem?_eq_some_iff.1 e).1 (fun h => hX (by
      rw [hX0.out]
      rcases h with h | ⟨h, _⟩
      · exact ⟨.inl h, by omega, by omega⟩
      · exact ⟨.inr (by omega), by omega, by omega⟩))).trans e⟩, hg⟩
  case done =>
    rintro D xs Wd hD hS hI hK
    rw [hS] at hI
    obtain ⟨v, hv, ho⟩ := hI.row
    have hsrt := hide (sort_own ho (by omega))
    have c6 := cell_row hv 0 (v := v) rfl
    have hvb : ∀ k, v.ownBlock = some k → w3.heap.size + 5 ≤ k ∧ ∃ cur, Wd.heap[k]? = some (.cells cur 9 (0, 0)) := fun k e => by
      rcases ho.2 with ⟨rfl, _⟩ | ⟨g, cap, cur, rfl, q1, q2, _⟩
      · cases e
      · cases e; exact ⟨q1, cur, q2⟩
    replace hv := hide hv
    replace ho := hide ho
    replace hI := hide hI
    replace hK := hide hK
    replace hvb := hide hvb
    gi_wp2_with (first | ((with_reducible refine atI_load 43 ?_); refine wlI_load 43 wide_fn rfl (ld43 c6) ?_))
    refine ⟨trivial, fun h => (by cases h), (callsIn_wide.2 hsrt.out).mono ?_⟩
    rintro e W7 ⟨rfl, ho7, hg7⟩
    have hDl := (Array.getElem?_eq_some_iff.1 hK.out).1
    have hvl := (Array.getElem?_eq_some_iff.1 hv.out).1
    have hv7 : W7.heap[w.heap.size]? = some (.cells #[v] 43 (0, 0)) := (hg7.block _ hvl (fun e => by have := (hvb.out _ e.symm).1; omega)).trans hv.out
    have hK7 : W7.heap[D]? = some (.deferred (some [])) := (hg7.block _ hDl (fun e => by
      obtain ⟨_, cur, hc⟩ := hvb.out _ e.symm
      rw [hK.out] at hc
      cases hc)).trans hK.out
    have c7 := cell_row hv7 0 (v := v) rfl
    have bel7 : Below w.heap.size w W7 := hI.out.bel.grown hg7 hI.out.bel.size (fun k e => by have := (hvb.out _ e).1; omega)
    replace hv7 := hide hv7
    replace hK7 := hide hK7
    replace ho7 := hide ho7
    replace bel7 := hide bel7
    clear hg7
    gi_wp2_with (first | ((with_reducible refine atI_load 43 ?_); refine wlI_load 43 wide_fn rfl (ld43 c7) ?_))
    have B77 := grownBy_putObj' W7 D (.deferred none)
    refine ⟨by simp, .inl ⟨_, _, rfl, run_takeDeferred hK7.out, ?_⟩⟩
    refine ⟨_, results_tmp rfl _ _ _, v, rfl, ?_, ?_⟩
    · have h1 : W7.ownsRow w.heap.size 9 1 v (gramsOf s).length ((gramsOf s).map encStr) := by
        show World.ownsRow _ _ _ _ _ (ups (winds s)).length ((ups (winds s)).map encStr)
        unfold ups
        refine ⟨ho7.out.1, ?_⟩
        rcases ho7.out.2 with h | ⟨g, cap, cur, q0, q1, q2⟩
        · exact .inl h
        · exact .inr ⟨g, cap, cur, q0, by omega, q2⟩
      exact ownsT_kept h1 (fun k cur _ e => (B77.block k (Array.getElem?_eq_some_iff.1 e).1 (fun h => by cases h; rw [hK7.out] at e; cases e)).trans e)
    · exact bel7.out.grown B77 bel7.out.size (fun k e => by cases e; omega)
  case stop => rintro D cc pr Wd hD hS h; exact h.elim
end Go.Proofs.YtnffbmipllhjdaaGreatDoor.G

namespace Go.Proofs.YtnffbmipllhjdaaGreatDoor.G
open Go.RowKit Go.Shelf
set_option linter.unusedVariables false
set_option linter.unusedSimpArgs false

/-- A query's cells. -/
def qA (o : Int) (t : Tx) (v : Value) : Array Value := #[.int .i64 o, encStr t, v]
def qV (o : Int) (t : Tx) (v : Value) : Value := .agg (qA o t v)
theorem sizeQ : (Tryz.prog.info? 30).map (·.size) = some 3 := by kernel_rfl
theorem infoQ : (Tryz.prog.info? 30).map (fun i => (i.zero, i.size, i.bytes)) = some (some (qV 0 [] (.slice none 0 0)), 3, 48) := by kernel_rfl
/-- In w the cells xs are queries f; the rows of what they ask lie in blocks in P. -/
def Kq (w : World) (P : Nat → Prop) : Qf → List Value → Prop
  | .nil, xs => xs = []
  | .cons o t kids rest, xs => ∃ v ys zs, xs = (qA o t v).toList ++ ys ∧ w.ownsRow 0 30 3 v kids.len zs ∧ (∀ b, v.ownBlock = some b → P b) ∧ Kq w P kids zs ∧ Kq w P rest ys
/-- The value x is the query q in memory. -/
def QyV (w : World) (P : Nat → Prop) (x : Value) (q : Qy) : Prop :=
  ∃ v zs, x = qV q.op q.tx v ∧ w.ownsRow 0 30 3 v q.l.len zs ∧ (∀ b, v.ownBlock = some b → P b) ∧ Kq w P q.l zs
theorem owns3_of_block {w w' : World} {base n : Nat} {v : Value} {xs : List Value} (h : w.ownsRow base 30 3 v n xs) (hb : ∀ k, v.ownBlock = some k → w'.heap[k]? = w.heap[k]?) : w'.ownsRow base 30 3 v n xs := by
  refine ⟨h.1, ?_⟩
  rcases h.2 with h1 | ⟨g, cap, cur, rfl, h2, h3, h4⟩
  · exact .inl h1
  · exact .inr ⟨g, cap, cur, rfl, h2, (hb g rfl).trans h3, h4⟩
theorem owns3_mono {w : World} {base base' n : Nat} {v : Value} {xs : List Value} (h : w.ownsRow base 30 3 v n xs) (hb : base' ≤ base) : w.ownsRow base' 30 3 v n xs := by
  refine ⟨h.1, ?_⟩
  rcases h.2 with h1 | ⟨g, cap, cur, rfl, h2, h3⟩
  · exact .inl h1
  · exact .inr ⟨g, cap, cur, rfl, by omega, h3⟩
theorem owns3_lt {w : World} {base n : Nat} {v : Value} {xs : List Value} (h : w.ownsRow base 30 3 v n xs) {k : Nat} (hk : v.ownBlock = some k) : base ≤ k ∧ k < w.heap.size := by
  rcases h.2 with ⟨rfl, _⟩ | ⟨g, cap, cur, rfl, h2, h3, _⟩
  · cases hk
  · cases hk; exact ⟨h2, (Array.getElem?_eq_some_iff.1 h3).1⟩
theorem owns3_val {w : World} {base n : Nat} {v : Value} {xs : List Value} (h : w.ownsRow base 30 3 v n xs) : ∃ a cap, v = .slice a n cap ∧ n ≤ cap ∧ cap ≤ maxLen := by
  rcases h.2 with ⟨rfl, rfl⟩ | ⟨g, cap, cur, rfl, h2, h3, h4, h5, _⟩
  · exact ⟨none, 0, rfl, Nat.le_refl _, Nat.zero_le _⟩
  · exact ⟨some ⟨g, 0, none⟩, cap, rfl, h4, h5⟩
theorem owns3_kc {S : Nat → Prop} {w w' : World} {base n : Nat} {v : Value} {xs : List Value} (h : w.ownsRow base 30 3 v n xs) (hk : Kc S w w') (hb : ∀ b, v.ownBlock = some b → ¬ S b) : w'.ownsRow base 30 3 v n xs := by
  refine ⟨h.1, ?_⟩
  rcases h.2 with h1 | ⟨g, cap, cur, rfl, h2, h3, h4⟩
  · exact .inl h1
  · exact .inr ⟨g, cap, cur, rfl, h2, hk.2 g _ _ _ (hb g rfl) h3, h4⟩
theorem Kq.kept {w w' : World} {P : Nat → Prop} (hb : ∀ b, P b → b < w.heap.size → w'.heap[b]? = w.heap[b]?) : ∀ {f : Qf} {xs : List Value}, Kq w P f xs → Kq w' P f xs
  | .nil, _, h => h
  | .cons o t kids rest, xs, ⟨v, ys, zs, e, ow, p, k1, k2⟩ => ⟨v, ys, zs, e, owns3_of_block ow (fun k hk => hb k (p k hk) (owns3_lt ow hk).2), p, Kq.kept hb k1, Kq.kept hb k2⟩
theorem Kq.mono {w : World} {P P' : Nat → Prop} (hp : ∀ b, b < w.heap.size → P b → P' b) : ∀ {f : Qf} {xs : List Value}, Kq w P f xs → Kq w P' f xs
  | .nil, _, h => h
  | .cons o t kids rest, xs, ⟨v, ys, zs, e, ow, p, k1, k2⟩ => ⟨v, ys, zs, e, ow, fun b hb => hp b (owns3_lt ow hb).2 (p b hb), Kq.mono hp k1, Kq.mono hp k2⟩
theorem Kq.kc {S : Nat → Prop} {w w' : World} (hk : Kc S w w') : ∀ {f : Qf} {xs : List Value}, Kq w (fun b => ¬ S b) f xs → Kq w' (fun b => ¬ S b) f xs
  | .nil, _, h => h
  | .cons o t kids rest, xs, ⟨v, ys, zs, e, ow, p, k1, k2⟩ => ⟨v, ys, zs, e, owns3_kc ow hk p, p, Kq.kc hk k1, Kq.kc hk k2⟩
/-- One query more, behind the others. -/
def Qf.snoc : Qf → Qy → Qf
  | .nil, q => .cons q.op q.tx q.l .nil
  | .cons o t k r, q => .cons o t k (r.snoc q)
theorem Kq.snoc {w : World} {P : Nat → Prop} {q : Qy} {v : Value} {zs : List Value} (ho : w.ownsRow 0 30 3 v q.l.len zs) (hp : ∀ b, v.ownBlock = some b → P b) (hk : Kq w P q.l zs) : ∀ {f : Qf} {xs : List Value}, Kq w P f xs → Kq w P (f.snoc q) (xs ++ (qA q.op q.tx v).toList)
  | .nil, xs, h => by cases h; exact ⟨v, [], zs, by simp, ho, hp, hk, rfl⟩
  | .cons o t kids rest, xs, ⟨u, ys, us, e, ow, p, k1, k2⟩ => ⟨u, ys ++ (qA q.op q.tx v).toList, us, by rw [e, List.append_assoc], ow, p, k1, Kq.snoc ho hp hk k2⟩
theorem Kq.nth {w : World} {P : Nat → Prop} : ∀ {f : Qf} {xs : List Value}, Kq w P f xs → ∀ (i : Nat) (q : Qy), f.ls[i]? = some q → ∃ v zs, (∀ j u, (qA q.op q.tx v)[j]? = some u → xs[i * 3 + j]? = some u) ∧ w.ownsRow 0 30 3 v q.l.len zs ∧ (∀ b, v.ownBlock = some b → P b) ∧ Kq w P q.l zs
  | .nil, _, _, i, q, h => by simp [Qf.ls] at h
  | .cons o t k r, xs, ⟨v, ys, zs, e, ow, p, k1, k2⟩, 0, q, h => by
      have hq : (⟨o, t, k⟩ : Qy) = q := by simpa [Qf.ls] using h
      subst hq
      refine ⟨v, zs, fun j u hj => ?_, ow, p, k1⟩
      rw [e, Nat.zero_mul, Nat.zero_add]
      have hj' : j < 3 := by
        have := (Array.getElem?_eq_some_iff.1 hj).1
        simpa [qA] using this
      rw [List.getElem?_append_left (by simp [qA]; exact hj')]
      simpa using hj
  | .cons o t k r, xs, ⟨v, ys, zs, e, ow, p, k1, k2⟩, i + 1, q, h => by
      obtain ⟨v', zs', h1, h2⟩ := Kq.nth k2 i q (by simpa [Qf.ls] using h)
      refine ⟨v', zs', fun j u hj => ?_, h2⟩
      rw [e, List.getElem?_append_right (by simp [qA]; omega)]
      have := h1 j u hj
      simp only [qA, List.length_cons, List.length_nil]
      rw [show (i + 1) * 3 + j - (0 + 1 + 1 + 1) = i * 3 + j by omega]
      exact this
theorem QyV.kept {w w' : World} {P : Nat → Prop} {x : Value} {q : Qy} (h : QyV w P x q) (hb : ∀ b, P b → b < w.heap.size → w'.heap[b]? = w.heap[b]?) : QyV w' P x q := by
  obtain ⟨v, zs, e, o, p, k⟩ := h
  exact ⟨v, zs, e, owns3_of_block o (fun k hk => hb k (p k hk) (owns3_lt o hk).2), p, k.kept hb⟩
theorem QyV.mono {w : World} {P P' : Nat → Prop} {x : Value} {q : Qy} (h : QyV w P x q) (hp : ∀ b, b < w.heap.size → P b → P' b) : QyV w P' x q := by
  obtain ⟨v, zs, e, o, p, k⟩ := h
  exact ⟨v, zs, e, o, fun b hb => hp b (owns3_lt o hb).2 (p b hb), k.mono hp⟩
theorem ld28 {w : World} {ad : Addr} {v : Value} (h : w.cell? ad = some v) : (loadVar 28 ad).run Tryz.prog w = .ok v w := by
  have ha : ∀ w, (isAgg 28).run Tryz.prog w = .ok false w := fun w => by kernel_rfl
  simp [loadVar, ha, go_sem, h]
end Go.Proofs.YtnffbmipllhjdaaGreatDoor.G

namespace Go.Proofs.YtnffbmipllhjdaaGreatDoor.G
open Go.RowKit Go.Shelf Go.Lib
set_option linter.unusedVariables false
set_option linter.unusedSimpArgs false

theorem run_alloc30 (dst : Option Nat) (ty : TypeId) (pos : String) (after : Array Edge) (ev : Operand → Value) (w : World) : (execOp ev ⟨dst, .alloc 30, ty, pos, after, none⟩).run Tryz.prog w = .ok (.value (.pointer (some ⟨w.heap.size, 0, none⟩))) (w.alloc (.cells (qA 0 [] (.slice none 0 0)) 30)) := by
  unfold execOp
  kernel_rfl
theorem run_box30 (dst : Option Nat) (ty : TypeId) (pos : String) (after : Array Edge) (ev : Operand → Value) (x : Operand) (o : Int) (t : Tx) (l : Value) (hx : ev x = qV o t l) (w : World) : (execOp ev ⟨dst, .box 30 x, ty, pos, after, none⟩).run Tryz.prog w = .ok (.value (.pointer (some ⟨w.heap.size, 0, none⟩))) (w.alloc (.cells (qA o t l) 30)) := by
  unfold execOp
  simp only [hx]
  kernel_rfl
theorem load30 {w : World} {g : Nat} {o : Int} {t : Tx} {l : Value} (h : w.heap[g]? = some (.cells (qA o t l) 30 (0, 0))) : (loadVar 30 ⟨g, 0, none⟩).run Tryz.prog w = .ok (qV o t l) w :=
  run_loadVar_row w g 30 30 _ (0, 0) _ h Tryz.underlying30 rfl sizeQ
theorem load30c {w : World} {b off : Nat} {o : Int} {t : Tx} {l : Value} (h : ∀ j v, (qA o t l)[j]? = some v → w.cell? ⟨b, off + j, none⟩ = some v) : (loadVar 30 ⟨b, off, none⟩).run Tryz.prog w = .ok (qV o t l) w := by
  have h0 := h 0 _ rfl
  have h1 := h 1 _ rfl
  have h2 := h 2 _ rfl
  have hz : ∀ w, (sizeOf 30).run Tryz.prog w = .ok 3 w := fun w => by kernel_rfl
  have ha : ∀ w, (isAgg 30).run Tryz.prog w = .ok true w := fun w => by kernel_rfl
  simp only [Nat.add_zero] at h0
  simp [loadVar, hz, ha, loadCells, go_sem, h0, h1, h2, add_plain]
  rfl
theorem qA_one {o : Int} {t : Tx} {v : Value} (hv : v.oneCell' = true) : (qA o t v).all (·.oneCell') = true := by
  have h1 : ∀ k n, (Value.int k n).oneCell' = true := fun _ _ => rfl
  have h2 : (encStr t).oneCell' = true := rfl
  simp [qA, hv, h1, h2]
section
variable {S : Nat → Prop} {w0 w : World} {L : List Ent} {ops : Array Oper} {rest : List Oper} {a : Act} {Q : Exit → Act → World → Prop} {dst : Option Nat} {x y : Operand} {ty : TypeId} {pos : String} {after : Array Edge}
theorem wl_load30 (i : Nat) (H : St S w0 w L) {b : Bool} {g : Nat} {o : Int} {t : Tx} {l : Value} (h : L[i]? = some (b, g, 30, qA o t l)) (hx : a.eval x = .pointer (some ⟨g, 0, none⟩))
    (k : wpList Tryz.prog ops Q rest (a.put dst (qV o t l)) w) : wpList Tryz.prog ops Q (⟨dst, .load 30 x, ty, pos, after, none⟩ :: rest) a w := wl_loadV 30 hx (load30 (H.get i h)) k
theorem wl_alloc30 (H : St S w0 w L) (h : ∀ g w', St S w0 w' ((true, g, 30, qA 0 [] (.slice none 0 0)) :: L) → w0.heap.size ≤ g → w.heap.size ≤ g → wpList Tryz.prog ops Q rest (a.put dst (.pointer (some ⟨g, 0, none⟩))) w') : wpList Tryz.prog ops Q (⟨dst, .alloc 30, ty, pos, after, none⟩ :: rest) a w :=
  wl_alloc 30 _ H (fun w => run_alloc30 _ _ _ _ _ w) h
theorem wl_box30 (H : St S w0 w L) {o : Int} {t : Tx} {l : Value} (hx : a.eval x = qV o t l) (h : ∀ g w', St S w0 w' ((true, g, 30, qA o t l) :: L) → w0.heap.size ≤ g → w.heap.size ≤ g → wpList Tryz.prog ops Q rest (a.put dst (.pointer (some ⟨g, 0, none⟩))) w') : wpList Tryz.prog ops Q (⟨dst, .box 30 x, ty, pos, after, none⟩ :: rest) a w := by
  refine wpList_plain rfl fun K hK => ?_
  unfold Oper.wp
  rw [run_box30 _ _ _ _ _ _ o t l hx, Oper.upon_value]
  exact hK _ _ (h _ _ (H.alloc 30 _) H.but.size (Nat.le_refl _))
theorem wl_store30 (i : Nat) (H : St S w0 w L) {g : Nat} {o o' : Int} {t t' : Tx} {l l' : Value} (h : L[i]? = some (true, g, 30, qA o t l)) (hx : a.eval x = .pointer (some ⟨g, 0, none⟩)) (hy : a.eval y = qV o' t' l') (hl : l'.oneCell' = true)
    (k : ∀ w', St S w0 w' (L.set i (true, g, 30, qA o' t' l')) → wpList Tryz.prog ops Q rest a w') : wpList Tryz.prog ops Q (⟨none, .store 30 x y, ty, pos, after, none⟩ :: rest) a w :=
  wl_store i 30 H h hx hy sizeQ rfl (qA_one hl) k
theorem wl_ld28q (i j : Nat) (H : St S w0 w L) {b : Bool} {g : Nat} {t : TypeId} {xs : Array Value} {v : Value} (h : L[i]? = some (b, g, t, xs)) (hv : xs[j]? = some v) (hx : a.eval x = .pointer (some ⟨g, j, none⟩)) (k : wpList Tryz.prog ops Q rest (a.put dst v) w) : wpList Tryz.prog ops Q (⟨dst, .load 28 x, ty, pos, after, none⟩ :: rest) a w := wl_loadA 28 hx (ld28 (H.cell i j h hv)) k
end
/-- Rows of queries lie as they lay. -/
def Kr (w w' : World) : Prop := ∀ (k : Nat) (cs : Array Value) (fr : Nat × Nat), w.heap[k]? = some (Obj.cells cs 30 fr) → w'.heap[k]? = some (Obj.cells cs 30 fr)
theorem Kr.refl (w : World) : Kr w w := fun _ _ _ h => h
theorem Kr.trans {a b c : World} (h : Kr a b) (k : Kr b c) : Kr a c := fun i cs fr e => k i cs fr (h i cs fr e)
theorem Kr.below {w w' : World} {B : Nat} (h : Below B w w') (hB : w.heap.size ≤ B) : Kr w w' := fun k cs fr e => (h.block k (by have := (Array.getElem?_eq_some_iff.1 e).1; omega)).trans e
theorem isB_at {B b : Nat} {bs : List Value} {w : World} (h : IsBuilder 133 5 B b bs w) : ∃ cs, w.heap[b]? = some (.cells cs 133 (0, 0)) := by
  rcases h with ⟨_, v, hb, _⟩ | ⟨_, v, hb, _⟩ <;> exact ⟨_, hb⟩
theorem Kr.bz {w w' : World} {B b : Nat} {bs : List Value} (hb : Bz b w w') (hi : IsBuilder 133 5 B b bs w) : Kr w w' := fun k cs fr e => by
  obtain ⟨c0, h0⟩ := isB_at hi
  refine (hb.block k (Array.getElem?_eq_some_iff.1 e).1 (fun h => ?_)).trans e
  rcases h with rfl | ⟨xs, f, h⟩
  · rw [h0] at e; cases e
  · rw [h] at e; cases e
theorem owns3_kr {w w' : World} {base n : Nat} {v : Value} {xs : List Value} (h : w.ownsRow base 30 3 v n xs) (hk : Kr w w') : w'.ownsRow base 30 3 v n xs := by
  refine ⟨h.1, ?_⟩
  rcases h.2 with h1 | ⟨g, cap, cur, rfl, h2, h3, h4⟩
  · exact .inl h1
  · exact .inr ⟨g, cap, cur, rfl, h2, hk g _ _ h3, h4⟩
theorem Kq.kr {w w' : World} {P : Nat → Prop} (hk : Kr w w') : ∀ {f : Qf} {xs : List Value}, Kq w P f xs → Kq w' P f xs
  | .nil, _, h => h
  | .cons o t kids rest, xs, ⟨v, ys, zs, e, ow, p, k1, k2⟩ => ⟨v, ys, zs, e, owns3_kr ow hk, p, Kq.kr hk k1, Kq.kr hk k2⟩
theorem QyV.kr {w w' : World} {P : Nat → Prop} {x : Value} {q : Qy} (h : QyV w P x q) (hk : Kr w w') : QyV w' P x q := by
  obtain ⟨v, zs, e, o, p, k⟩ := h
  exact ⟨v, zs, e, owns3_kr o hk, p, k.kr hk⟩
theorem bz_refl (b : Nat) (w : World) : Bz b w w := But.refl _ _
theorem bz_trans {b : Nat} {u v w : World} (h : Bz b u v) (k : Bz b v w) : Bz b u w := But.trans h k (fun i hi ht => by
  by_cases hs : i = b ∨ ∃ xs fr, u.heap[i]? = some (.cells xs 5 fr)
  · exact hs
  · rcases ht with rfl | ⟨xs, fr, e⟩
    · exact .inl rfl
    · exact .inr ⟨xs, fr, (h.block i hi hs).symm.trans e⟩)
theorem bz_below {b B : Nat} {w w' : World} (h : Below B w w') (hB : w.heap.size ≤ B) : Bz b w w' := but_of_below h _ (fun k h1 h2 => by omega)
/-- What a telling leaves. -/
structure Tw (B b : Nat) (l : Tx) (w w' : World) : Prop where
  ib : IsBuilder 133 5 B b (Go.Lib.byteCells l) w'
  bel : Below B w w'
  bz : Bz b w w'
theorem isB_same' {B b : Nat} {bs : List Value} {W W' : World} (h : IsBuilder 133 5 B b bs W) (hs : ∀ (k : Nat) (xs : Array Value) (t : TypeId) (fr : Nat × Nat), W.heap[k]? = some (Obj.cells xs t fr) → W'.heap[k]? = some (Obj.cells xs t fr)) : IsBuilder 133 5 B b bs W' := by
  have one : ∀ p, BuilderAt 133 5 B b p bs W → BuilderAt 133 5 B b p bs W' := fun p ⟨hB, v, hb, ho, hn⟩ => by
    refine ⟨hB, v, hs b _ _ _ hb, ⟨ho.1, ?_⟩, hn⟩
    rcases ho.2 with h1 | ⟨g, cp, cur, rfl, h2, h3, h4⟩
    · exact .inl h1
    · exact .inr ⟨g, cp, cur, rfl, h2, hs g _ _ _ h3, h4⟩
  rcases h with h | h
  · exact .inl (one _ h)
  · exact .inr (one _ h)
theorem isB_below' {B C b : Nat} {bs : List Value} {W W' : World} (h : IsBuilder 133 5 B b bs W) (hb : Below C W W') (hC : W.heap.size ≤ C) : IsBuilder 133 5 B b bs W' := isB_same' h (fun k xs t fr e => (hb.block k (by have := (Array.getElem?_eq_some_iff.1 e).1; omega)).trans e)
theorem Tw.refl {B b : Nat} {l : Tx} {w : World} (h : IsBuilder 133 5 B b (Go.Lib.byteCells l) w) : Tw B b l w w := ⟨h, Below.refl _ _, bz_refl _ _⟩
theorem Tw.trans {B b : Nat} {l m : Tx} {u v w : World} (h : Tw B b l u v) (k : Tw B b m v w) : Tw B b m u w := ⟨k.ib, h.bel.trans k.bel, bz_trans h.bz k.bz⟩
theorem Tw.ahead {B C b : Nat} {m : Tx} {u v w : World} (h : Below C u v) (hC : u.heap.size ≤ C) (hB : B ≤ C) (k : Tw B b m v w) : Tw B b m u w := ⟨k.ib, (h.mono hB).trans k.bel, bz_trans (bz_below h hC) k.bz⟩
theorem Tw.of {B b : Nat} {l : Tx} {w w' : World} (h : IsBuilder 133 5 B b (Go.Lib.byteCells l) w' ∧ Below B w w' ∧ Bz b w w') : Tw B b l w w' := ⟨h.1, h.2.1, h.2.2⟩
/-- A query can be told. -/
def TellOk (q : Qy) : Prop := ∀ (B b : Nat) (l : Tx) (P : Nat → Prop) (x : Value) (w : World), IsBuilder 133 5 B b (Go.Lib.byteCells l) w → B ≤ w.heap.size → QyV w P x q → l.length + q.tell.length ≤ 1000000000 →
  Calls Tryz.prog 95 #[.pointer (some ⟨b, 0, none⟩), x] w fun e w' => e = .returned (.tuple #[]) ∧ Tw B b (l ++ q.tell) w w'
theorem joinB_snoc (a : List Tx) (t : Tx) : joinB (a ++ [t]) = if a = [] then t else joinB a ++ 32 :: t := by
  induction a with
  | nil => rfl
  | cons x r ih =>
    cases r with
    | nil => simp [joinB]
    | cons y s =>
      show x ++ 32 :: joinB ((y :: s) ++ [t]) = _
      rw [ih]
      simp [joinB]
theorem joinB_pre : ∀ (a b : List Tx), (joinB a).length ≤ (joinB (a ++ b)).length
  | [], b => by simp [joinB]
  | x :: [], b => by rw [List.cons_append, joinB_cons, joinB_cons]; simp [restB]
  | x :: y :: s, b => by
    have := joinB_pre (y :: s) b
    rw [List.cons_append, joinB_cons, joinB_cons]
    show (x ++ 32 :: joinB (y :: s)).length ≤ (x ++ 32 :: joinB ((y :: s) ++ b)).length
    simp only [List.length_append, List.length_cons] at *
    omega
theorem tells_len (f : Qf) : f.tells.length = f.len := by rw [tells_ls, List.length_map, len_ls]
theorem ownT3_one {w : World} {base n : Nat} {v : Value} {xs : List Value} (h : w.ownsRow base 30 3 v n xs) : v.oneCell' = true := by
  rcases h.2 with ⟨rfl, _⟩ | ⟨_, _, _, rfl, _⟩ <;> rfl
/-- A query of a row. -/
theorem row_nth {w : World} {P : Nat → Prop} {f : Qf} {va : Option Addr} {vc : Nat} {zs : List Value} (ho : w.ownsRow 0 30 3 (.slice va f.len vc) f.len zs) (hk : Kq w P f zs) (k : Nat) (q : Qy) (hq : f.ls[k]? = some q) :
    ∃ g cv, va = some ⟨g, 0, none⟩ ∧ cv.oneCell' = true ∧ ∀ w', Kr w w' → QyV w' P (qV q.op q.tx cv) q ∧ (loadVar 30 ⟨g, k * 3, none⟩).run Tryz.prog w' = .ok (qV q.op q.tx cv) w' := by
  obtain ⟨cv, czs, hcells, cho, chp, chk⟩ := Kq.nth hk k q hq
  rcases ho.2 with ⟨h1, h2⟩ | ⟨b, cap', cur, hv, _, hgb, _⟩
  · have := (List.getElem?_eq_some_iff.1 hq).1
    rw [len_ls] at this
    omega
  · cases hv
    refine ⟨b, cv, rfl, ownT3_one cho, fun w' hb => ⟨⟨cv, czs, rfl, owns3_kr cho hb, chp, chk.kr hb⟩, ?_⟩⟩
    refine load30c (fun i u hi => ?_)
    have := (owns3_kr ho hb).cells (g := b) rfl _ _ (hcells i u hi)
    rwa [add_plain, Nat.zero_add] at this
end Go.Proofs.YtnffbmipllhjdaaGreatDoor.G

namespace Go.Proofs.YtnffbmipllhjdaaGreatDoor.G
open Go.RowKit Go.Shelf Go.Lib
set_option linter.unusedVariables false
set_option linter.unusedSimpArgs false

theorem joinB_many : ∀ ts : List Tx, ts.length ≤ (joinB ts).length + 1
  | [] => by simp
  | [t] => by simp
  | t :: y :: r => by
    have := joinB_many (y :: r)
    show _ ≤ (t ++ 32 :: joinB (y :: r)).length + 1
    simp only [List.length_append, List.length_cons] at *
    omega
theorem tellOk_nth {f : Qf} (hq : ∀ q ∈ f.ls, TellOk q) {k : Nat} {q : Qy} (h : f.ls[k]? = some q) : TellOk q := hq q (List.mem_of_getElem? h)
set_option maxHeartbeats 4000000 in
set_option maxRecDepth 100000 in
theorem tellList_of (f : Qf) (hq : ∀ q ∈ f.ls, TellOk q) (o c : UInt8) (B b : Nat) (l : Tx) (P : Nat → Prop) (v : Value) (zs : List Value) (w : World)
    (hi : IsBuilder 133 5 B b (Go.Lib.byteCells l) w) (hB : B ≤ w.heap.size) (ho : w.ownsRow 0 30 3 v f.len zs) (hk : Kq w P f zs) (hl : l.length + (joinB f.tells).length + 2 ≤ 1000000000) :
    Calls Tryz.prog 147 #[.pointer (some ⟨b, 0, none⟩), .int .u8 (o.toNat : Int), v, .int .u8 (c.toNat : Int)] w fun e w' => e = .returned (.tuple #[]) ∧ Tw B b (l ++ o :: (joinB f.tells ++ [c])) w w' := by
  obtain ⟨va, vc, rfl, _, hvm⟩ := owns3_val ho
  have child := hide (fun k q h => row_nth ho hk k q h)
  have htl := tells_len f
  have hfl : f.len ≤ 1099511627776 := by have := joinB_many f.tells; omega
  replace hq := hide hq
  clear ho hk
  go_enter Tryz.func147, Tryz.ntmps147
  go_wp2_with (go_at_call 73; refine (wb_any B b l o w hi (by omega) hB).mono ?_)
  rintro e w1 ⟨rfl, h1⟩
  have T1 := hide (Tw.of h1)
  clear h1
  go_wp2
  go_loopw [15] (fun iv wr => ∃ k : Nat, k ≤ f.len ∧ iv = .int .i64 (k : Int) ∧ Hid (Tw B b (l ++ o :: joinB (f.tells.take k)) w wr)) (fun iv _ => f.len - (intOf iv).toNat)
  case atStart => exact ⟨0, Nat.zero_le _, rfl, by show Tw _ _ _ _ _; simpa [joinB] using T1.out⟩
  case round =>
    obtain ⟨k, hk, rfl, T⟩ := hrel
    by_cases hlt : k < f.len
    · have i3 : (k : Int) < (f.len : Int) := by omega
      obtain ⟨q, hqk⟩ : ∃ q, f.ls[k]? = some q := ⟨_, List.getElem?_eq_getElem (by rw [len_ls]; exact hlt)⟩
      obtain ⟨g, cv, hva, hcv, hch⟩ := child.out k q hqk
      subst hva
      have hqt : f.tells[k]? = some q.tell := by rw [tells_ls, List.getElem?_map, hqk]; rfl
      have htk : f.tells.take (k + 1) = f.tells.take k ++ [q.tell] := by rw [List.take_add_one, hqt]; rfl
      have hjs : joinB (f.tells.take (k + 1)) = if f.tells.take k = [] then q.tell else joinB (f.tells.take k) ++ 32 :: q.tell := by rw [htk, joinB_snoc]
      have hjl : (joinB (f.tells.take (k + 1))).length ≤ (joinB f.tells).length := by
        have := joinB_pre (f.tells.take (k + 1)) (f.tells.drop (k + 1))
        rwa [List.take_append_drop] at this
      have hnil : f.tells.take k = [] ↔ k = 0 := by rw [List.take_eq_nil_iff]; constructor; · rintro (h | h); exact h; rw [h] at htl; simp at htl; omega
                                                    · exact .inl
      have hQ := hide (tellOk_nth hq.out hqk)
      have hT := T.out
      have hkr : Kr w wr := (Kr.bz hT.bz hi)
      have hsw : B ≤ wr.heap.size := by have := hT.bel.size; omega
      obtain ⟨hQV, hld⟩ := hch wr hkr
      have hch' := hide hch
      replace hQV := hide hQV
      have H := St.start Nope wr
      have hjs0 : k = 0 → joinB (f.tells.take (k + 1)) = q.tell := fun h => by rw [hjs, if_pos (hnil.2 h)]
      have hjs1 : k ≠ 0 → joinB (f.tells.take (k + 1)) = joinB (f.tells.take k) ++ 32 :: q.tell := fun h => by rw [hjs, if_neg (fun h2 => h (hnil.1 h2))]
      clear hjs
      replace htk := hide htk
      replace hnil := hide hnil
      replace hkr := hide hkr
      clear hch hqt
      by_cases hk0 : k = 0
      · have hjs := hide (hjs0 hk0)
        clear hjs0 hjs1
        rw [hjs.out] at hjl
        subst hk0
        obtain ⟨m, hm⟩ : ∃ m, m = l ++ o :: joinB (f.tells.take 0) := ⟨_, rfl⟩
        have hml : m.length = l.length + 1 := by rw [hm]; simp [joinB]
        rw [← hm] at hT T
        replace hm := hide hm
        clear hT
        go_wp2_with (first | ((with_reducible refine at_load 30 ?_); refine wl_loadA 30 rfl hld ?_) | ((with_reducible refine at_alloc 30 ?_); refine wl_alloc30 H ?_; clear H; intro g9 w9 H q1 q2) | ((with_reducible refine at_store 30 ?_); refine wl_store30 0 H rfl rfl rfl hcv ?_; clear H; intro w10 H; have hb10 := H.below; have hg9 := H.get 0 rfl; have hx11 := hide (hch'.out _ (hkr.out.trans (Kr.below hb10 (Nat.le_refl _)))).1; have i11 := hide (isB_below' T.out.ib hb10 (Nat.le_refl _)); have s11 : B ≤ w10.heap.size := by (have := hb10.size; omega)) | ((with_reducible refine at_load 30 ?_); refine wl_loadA 30 rfl (load30 hg9) ?_) | (go_at_call 95; refine (hQ.out B b m P _ _ i11.out s11 hx11.out (by omega)).mono ?_))
        intro e w12 he T12
        subst he
        have T13 : Hid (Tw B b (l ++ o :: joinB (f.tells.take (0 + 1))) w w12) := by
          have := T.out.trans (Tw.ahead hb10 (Nat.le_refl _) (by omega) T12)
          rw [hm.out] at this
          rw [hjs.out]
          show Tw _ _ _ _ _
          simpa [joinB] using this
        clear T12
        go_wp2
        go_roundw
        case rel => exact ⟨0 + 1, by omega, by simp, T13⟩
        case measure => simp [intOf]; omega
      · have i4 : (0 : Int) < (k : Int) := by omega
        have hjs := hide (hjs1 hk0)
        clear hjs0 hjs1
        rw [hjs.out] at hjl
        simp only [List.length_append, List.length_cons] at hjl
        obtain ⟨m, hm⟩ : ∃ m, m = l ++ o :: joinB (f.tells.take k) := ⟨_, rfl⟩
        have hml : m.length = l.length + (joinB (f.tells.take k)).length + 1 := by rw [hm]; simp; omega
        rw [← hm] at hT T
        replace hm := hide hm
        clear hT
        go_wp2_with (first | ((with_reducible refine at_load 30 ?_); refine wl_loadA 30 rfl hld ?_) | ((with_reducible refine at_alloc 30 ?_); refine wl_alloc30 H ?_; clear H; intro g9 w9 H q1 q2) | ((with_reducible refine at_store 30 ?_); refine wl_store30 0 H rfl rfl rfl hcv ?_; clear H; intro w10 H))
        have hb10 := H.below
        go_wp2_with (go_at_call 73; refine (wb_any B b m 32 _ (isB_below' T.out.ib hb10 (Nat.le_refl _)) (by omega) (by have := hb10.size; omega)).mono ?_)
        rintro e w11 ⟨rfl, h11⟩
        have K11 := Kr.bz h11.2.2 (isB_below' T.out.ib hb10 (Nat.le_refl _))
        have hg9 := K11 _ _ _ (H.get 0 rfl)
        have hx11 := hide (hch'.out w11 ((hkr.out.trans (Kr.below hb10 (Nat.le_refl _))).trans K11)).1
        have T11 := hide (Tw.ahead hb10 (Nat.le_refl _) (by omega) (Tw.of h11))
        have i11 := hide h11.1
        have s11 : B ≤ w11.heap.size := by have := T11.out.bel.size; omega
        clear h11 K11 hb10 H
        go_wp2_with (first | ((with_reducible refine at_load 30 ?_); refine wl_loadA 30 rfl (load30 hg9) ?_) | (go_at_call 95; refine (hQ.out B b (m ++ [32]) P _ w11 i11.out s11 hx11.out (by simp; omega)).mono ?_))
        rintro e w12 ⟨rfl, T12⟩
        have T13 : Hid (Tw B b (l ++ o :: joinB (f.tells.take (k + 1))) w w12) := by
          have := T.out.trans (T11.out.trans T12)
          rw [hm.out] at this
          rw [hjs.out]
          show Tw _ _ _ _ _
          simpa using this
        clear T12
        go_wp2
        go_roundw
        case rel => exact ⟨k + 1, by omega, by simp, T13⟩
        case measure => simp [intOf]; omega
    · obtain rfl : k = f.len := by omega
      have i3 : ¬ (f.len : Int) < (f.len : Int) := by omega
      rw [List.take_of_length_le (by omega)] at T
      have s2 : B ≤ wr.heap.size := by have := T.out.bel.size; omega
      go_wp2_with (go_at_call 73; refine (wb_any B b _ c _ T.out.ib (by simp; omega) s2).mono ?_)
      intro e w12 he ha hb hc
      subst he
      have h12 := And.intro ha (And.intro hb hc)
      have T13 := hide (T.out.trans (Tw.of h12))
      clear h12
      go_wp2
      go_end0
      refine ⟨rfl, ?_⟩
      have := T13.out
      simpa using this
end Go.Proofs.YtnffbmipllhjdaaGreatDoor.G

namespace Go.Proofs.YtnffbmipllhjdaaGreatDoor.G
open Go.RowKit Go.Shelf Go.Lib
set_option linter.unusedVariables false
set_option linter.unusedSimpArgs false

theorem bars (t : Tx) : ((⟨#[124]⟩ : ByteArray) ++ ⟨t.toArray⟩ ++ ⟨#[124]⟩) = ⟨(124 :: t ++ [124]).toArray⟩ := by
  apply ByteArray.ext
  simp [ByteArray.data_append]
theorem bars_any (B b : Nat) (l t : Tx) (w : World) (hi : IsBuilder 133 5 B b (Go.Lib.byteCells l) w) (hl : l.length + t.length + 2 ≤ 1000000000) (hB : B ≤ w.heap.size) :
    Calls Tryz.prog 74 #[.pointer (some ⟨b, 0, none⟩), .string ((⟨#[124]⟩ : ByteArray) ++ ⟨t.toArray⟩ ++ ⟨#[124]⟩)] w fun e w' => e = .returned (.tuple #[.int .i64 ((t.length + 2 : Nat) : Int), .nilIface]) ∧ Tw B b (l ++ (124 :: t ++ [124])) w w' := by
  rw [bars]
  have hz : (⟨(124 :: t ++ [124]).toArray⟩ : ByteArray).size = t.length + 2 := by simp [ByteArray.size]
  refine (ws_any B b l _ w hi (by rw [hz]; omega) hB).mono ?_
  rintro e w' ⟨rfl, h⟩
  rw [hz]
  obtain ⟨h1, h2, h3⟩ := h
  refine ⟨rfl, ?_, h2, h3⟩
  simpa using h1
end Go.Proofs.YtnffbmipllhjdaaGreatDoor.G

namespace Go.Proofs.YtnffbmipllhjdaaGreatDoor.G
open Go.RowKit Go.Shelf Go.Lib
set_option linter.unusedVariables false
set_option linter.unusedSimpArgs false

theorem sz_mem : ∀ {f : Qf} {q : Qy}, q ∈ f.ls → q.sz ≤ f.sz
  | .nil, q, h => by simp [Qf.ls] at h
  | .cons o t k r, q, h => by
    rcases List.mem_cons.1 h with rfl | h
    · simp [Qf.sz, Qy.sz]
    · have := sz_mem h; simp only [Qf.sz]; omega
set_option maxHeartbeats 4000000 in
set_option maxRecDepth 100000 in
theorem tell_any : ∀ (N : Nat) (q : Qy), q.sz ≤ N → TellOk q := by
  intro N
  induction N with
  | zero => intro q h; simp [Qy.sz] at h
  | succ N ih =>
  rintro ⟨o, t, f⟩ hN B b l P x w hi hB hx hl
  have hsub : ∀ q ∈ f.ls, TellOk q := fun q hq => ih q (by
    have h1 := sz_mem hq
    simp only [Qy.sz] at *
    omega)
  obtain ⟨v, zs, rfl, ho, hp, hk⟩ := hx
  obtain ⟨va, vc, rfl, _, _⟩ := owns3_val ho
  simp only [Qy.tell] at *
  have H := St.start Nope w
  have TL := hide (fun (c1 c2 : UInt8) (w' : World) (h : Below w.heap.size w w') (hl2 : l.length + (joinB f.tells).length + 2 ≤ 1000000000) => tellList_of f hsub c1 c2 B b l P _ zs w' (isB_below' hi h (Nat.le_refl _)) (by have := h.size; omega) (owns3_kr ho (Kr.below h (Nat.le_refl _))) (hk.kr (Kr.below h (Nat.le_refl _))) hl2)
  have hiH := hide hi
  clear ih hsub ho hp hk hN hi
  by_cases h0 : o = 0
  · subst h0
    have hl2 : l.length + 1 ≤ 1000000000 := by simpa [tellN] using hl
    rw [show tellN 0 t f.tells = [42] from rfl] at *
    go_enter Tryz.func95, Tryz.ntmps95
    go_wp2_with (first | ((with_reducible refine at_box 30 ?_); refine wl_box30 (o := 0) (t := t) H rfl ?_; clear H; intro g3 w3 H q1 q2; have hb3 := H.below) | ((with_reducible refine at_load 3 ?_); refine wl_ld3 0 0 H (v := .int .i64 0) rfl rfl rfl ?_) | (go_at_call 73; refine (wb_any B b l 42 _ (isB_below' hiH.out hb3 (Nat.le_refl _)) (by omega) (by have := hb3.size; omega)).mono ?_))
    rintro e w12 ⟨rfl, h12⟩
    have T13 := hide (Tw.ahead hb3 (Nat.le_refl _) hB (Tw.of h12))
    clear h12
    go_wp2
    go_end0
    exact ⟨rfl, T13.out⟩
  by_cases h1 : o = 1
  · subst h1
    have hl2 : l.length + 1 ≤ 1000000000 := by simpa [tellN] using hl
    rw [show tellN 1 t f.tells = [45] from rfl] at *
    go_enter Tryz.func95, Tryz.ntmps95
    go_wp2_with (first | ((with_reducible refine at_box 30 ?_); refine wl_box30 (o := 1) (t := t) H rfl ?_; clear H; intro g3 w3 H q1 q2; have hb3 := H.below) | ((with_reducible refine at_load 3 ?_); refine wl_ld3 0 0 H (v := .int .i64 1) rfl rfl rfl ?_) | (go_at_call 73; refine (wb_any B b l 45 _ (isB_below' hiH.out hb3 (Nat.le_refl _)) (by omega) (by have := hb3.size; omega)).mono ?_))
    rintro e w12 ⟨rfl, h12⟩
    have T13 := hide (Tw.ahead hb3 (Nat.le_refl _) hB (Tw.of h12))
    clear h12
    go_wp2
    go_end0
    exact ⟨rfl, T13.out⟩
  by_cases h2 : o = 2
  · subst h2
    rw [show tellN 2 t f.tells = 124 :: t ++ [124] from rfl] at *
    have hl2 : l.length + t.length + 2 ≤ 1000000000 := by simp at hl; omega
    have WS := hide (fun w' (h : Below w.heap.size w w') => bars_any B b l t w' (isB_below' hiH.out h (Nat.le_refl _)) hl2 (by have := h.size; omega))
    go_enter Tryz.func95, Tryz.ntmps95
    go_wp2_with (first | ((with_reducible refine at_box 30 ?_); refine wl_box30 (o := 2) (t := t) H rfl ?_; clear H; intro g3 w3 H q1 q2; have hb3 := H.below) | ((with_reducible refine at_load 3 ?_); refine wl_ld3 0 0 H (v := .int .i64 2) rfl rfl rfl ?_) | ((with_reducible refine at_load 9 ?_); refine wl_ld9 0 1 H (v := .string ⟨t.toArray⟩) rfl rfl rfl ?_) | (go_at_call 74; refine (WS.out _ hb3).mono ?_))
    rintro e w12 ⟨rfl, h12⟩
    have T13 := hide (Tw.ahead hb3 (Nat.le_refl _) hB h12)
    clear h12
    go_wp2
    go_end0
    exact ⟨rfl, T13.out⟩
  by_cases h3 : o = 3
  · subst h3
    rw [show tellN 3 t f.tells = 40 :: (joinB f.tells ++ [41]) from rfl] at *
    have hl2 : l.length + (joinB f.tells).length + 2 ≤ 1000000000 := by simp at hl; omega
    go_enter Tryz.func95, Tryz.ntmps95
    go_wp2_with (first | ((with_reducible refine at_box 30 ?_); refine wl_box30 (o := 3) (t := t) H rfl ?_; clear H; intro g3 w3 H q1 q2; have hb3 := H.below) | ((with_reducible refine at_load 3 ?_); refine wl_ld3 0 0 H (v := .int .i64 3) rfl rfl rfl ?_) | ((with_reducible refine at_load 28 ?_); refine wl_ld28q 0 2 H (v := .slice va f.len vc) rfl rfl rfl ?_) | (go_at_call 147; refine (TL.out 40 41 _ hb3 hl2).mono ?_))
    rintro e w12 ⟨rfl, h12⟩
    have T13 := hide (Tw.ahead hb3 (Nat.le_refl _) hB h12)
    clear h12
    go_wp2
    go_end0
    exact ⟨rfl, T13.out⟩
  by_cases h4 : o = 4
  · subst h4
    rw [show tellN 4 t f.tells = 91 :: (joinB f.tells ++ [93]) from rfl] at *
    have hl2 : l.length + (joinB f.tells).length + 2 ≤ 1000000000 := by simp at hl; omega
    go_enter Tryz.func95, Tryz.ntmps95
    go_wp2_with (first | ((with_reducible refine at_box 30 ?_); refine wl_box30 (o := 4) (t := t) H rfl ?_; clear H; intro g3 w3 H q1 q2; have hb3 := H.below) | ((with_reducible refine at_load 3 ?_); refine wl_ld3 0 0 H (v := .int .i64 4) rfl rfl rfl ?_) | ((with_reducible refine at_load 28 ?_); refine wl_ld28q 0 2 H (v := .slice va f.len vc) rfl rfl rfl ?_) | (go_at_call 147; refine (TL.out 91 93 _ hb3 hl2).mono ?_))
    rintro e w12 ⟨rfl, h12⟩
    have T13 := hide (Tw.ahead hb3 (Nat.le_refl _) hB h12)
    clear h12
    go_wp2
    go_end0
    exact ⟨rfl, T13.out⟩
  · rw [show tellN o t f.tells = [] by simp [tellN, h0, h1, h2, h3, h4], List.append_nil] at *
    have e0 : (o == 0) = false := by simpa using h0
    have e1 : (o == 1) = false := by simpa using h1
    have e2 : (o == 2) = false := by simpa using h2
    have e3 : (o == 3) = false := by simpa using h3
    have e4 : (o == 4) = false := by simpa using h4
    go_enter Tryz.func95, Tryz.ntmps95
    go_wp2_with (first | ((with_reducible refine at_box 30 ?_); refine wl_box30 (o := o) (t := t) H rfl ?_; clear H; intro g3 w3 H q1 q2; have hb3 := H.below) | ((with_reducible refine at_load 3 ?_); refine wl_ld3 0 0 H (v := .int .i64 o) rfl rfl rfl ?_))
    go_end0
    exact ⟨rfl, Tw.ahead hb3 (Nat.le_refl _) hB (Tw.refl (isB_below' hiH.out hb3 (Nat.le_refl _)))⟩
end Go.Proofs.YtnffbmipllhjdaaGreatDoor.G

namespace Go.Proofs.YtnffbmipllhjdaaGreatDoor.G
open Go.RowKit Go.Shelf Go.Lib
set_option linter.unusedVariables false
set_option linter.unusedSimpArgs false

/-- How long a query's text is. -/
theorem new133 (w : World) : IsBuilder 133 5 w.heap.size w.heap.size (Go.Lib.byteCells []) (w.alloc (.cells #[.pointer none, .slice none 0 0] 133)) := fresh_isBuilder 133 5 w
section
variable {S : Nat → Prop} {w0 w : World} {L : List Ent} {ops : Array Oper} {rest : List Oper} {a : Act} {Q : Exit → Act → World → Prop} {dst : Option Nat} {x y : Operand} {ty : TypeId} {pos : String} {after : Array Edge}
theorem wl_new133 (h : ∀ g w', g = w.heap.size → IsBuilder 133 5 g g (Go.Lib.byteCells []) w' → Below w.heap.size w w' → w'.heap.size = w.heap.size + 1 → wpList Tryz.prog ops Q rest (a.put dst (.pointer (some ⟨g, 0, none⟩))) w') : wpList Tryz.prog ops Q (⟨dst, .alloc 133, ty, pos, after, none⟩ :: rest) a w := by
  have e : (execOp a.eval ⟨dst, .alloc 133, ty, pos, after, none⟩).run Tryz.prog w = .ok (.value (.pointer (some ⟨w.heap.size, 0, none⟩))) (w.alloc (.cells #[.pointer none, .slice none 0 0] 133)) := by
    unfold execOp
    kernel_rfl
  refine wpList_plain rfl fun K hK => ?_
  unfold Oper.wp
  rw [e, Oper.upon_value]
  exact hK _ _ (h _ _ rfl (new133 w) ((Below.refl _ w).alloc (Nat.le_refl _) _) (by simp))
end
set_option maxHeartbeats 4000000 in
set_option maxRecDepth 100000 in
/-- told. -/
theorem told_any (q : Qy) (P : Nat → Prop) (x : Value) (w : World) (hx : QyV w P x q) (hl : q.tell.length ≤ 1000000000) :
    Calls Tryz.prog 49 #[x] w fun e w' => e = .returned (encStr q.tell) ∧ Below w.heap.size w w' := by
  have TA := hide (tell_any q.sz q (Nat.le_refl _))
  have hxH := hide hx
  obtain ⟨v, zs, rfl, ho, hp, hk⟩ := hx
  have H := St.start Nope w
  have hone := ownT3_one ho
  clear ho hp hk
  go_enter Tryz.func49, Tryz.ntmps49
  go_wp2_with (first | ((with_reducible refine at_box 30 ?_); refine wl_box30 (o := q.op) (t := q.tx) H rfl ?_; clear H; intro g3 w3 H q1 q2) | ((with_reducible refine at_alloc 133 ?_); refine wl_new133 ?_; intro gb w4 hgb ib4 B4 s4; have hb3 := H.below; have H4 := H.call B4 (Nat.le_refl _); have hb4 := H4.below; have hx4 := hide (hxH.out.kr (Kr.below hb4 (Nat.le_refl _))); replace ib4 := hide ib4; have hs4 : gb ≤ w4.heap.size := (by omega); have hgw : w.heap.size ≤ gb := (by have := hb3.size; omega); replace hgb := hide hgb; replace s4 := hide s4) | ((with_reducible refine at_load 30 ?_); refine wl_load30 0 H4 rfl rfl ?_) | (go_at_call 95; refine (TA.out gb gb [] P _ _ ib4.out hs4 hx4.out (by simpa using hl)).mono ?_))
  rintro e w12 ⟨rfl, T12⟩
  have hs12 : gb ≤ w12.heap.size := by have := T12.bel.size; omega
  have T12h := hide T12
  clear T12
  go_wp2_with (go_at_call 75; refine (st_any gb gb _ _ T12h.out.ib hs12).mono ?_)
  rintro e w13 ⟨rfl, B13⟩
  go_wp2
  go_ret
  refine ⟨rfl, ?_⟩
  exact hb4.trans ((T12h.out.bel.trans B13).mono hgw)
end Go.Proofs.YtnffbmipllhjdaaGreatDoor.G

namespace Go.Proofs.YtnffbmipllhjdaaGreatDoor.G
open Go.RowKit Go.Shelf
set_option linter.unusedVariables false
set_option linter.unusedSimpArgs false
attribute [local go_sem] Oper.semAt_some

theorem store30r {w : World} {g : Nat} {o o' : Int} {t t' : Tx} {l l' : Value} (h : w.heap[g]? = some (.cells (qA o t l) 30 (0, 0))) (hl : l'.oneCell' = true) : (storeVar 30 ⟨g, 0, none⟩ (qV o' t' l')).run Tryz.prog w = .ok () (w.setRow g (qA o' t' l')) :=
  run_storeVar_row w g 30 30 _ _ h sizeQ rfl (qA_one hl)
theorem run_bs28 (o : Int) (t : Tx) (v : Value) (w : World) : (Instr.buildSlice 28 1 #[(0, qV o t v)]).run Tryz.prog w = .ok (.slice (some ⟨w.heap.size, 0, none⟩) 1 1) (w.alloc (.cells (qA o t v) 30)) := by kernel_rfl
section
variable {F : Fence} {n : Nat} {w w' : World} {ops : Array Oper} {rest : List Oper} {a : Act} {Q : Exit → Act → World → Prop} {dst : Option Nat} {x y : Operand} {ty : TypeId} {pos : String} {after : Array Edge}
/-- A box is made and at once filled. -/
theorem atI_new30 {d : Nat} {ty2 : TypeId} {pos2 : String} {after2 : Array Edge} (h : wpListIn F n Tryz.prog ops Q (⟨some d, .alloc 30, ty, pos, after, none⟩ :: ⟨none, .store 30 (.tmp d) y, ty2, pos2, after2, none⟩ :: rest) a w) : wpListIn F n Tryz.prog ops Q (⟨some d, .alloc 30, ty, pos, after, none⟩ :: ⟨none, .store 30 (.tmp d) y, ty2, pos2, after2, none⟩ :: rest) a w := h
theorem wlI_new30 {d : Nat} {ty2 : TypeId} {pos2 : String} {after2 : Array Edge} (hF : ∀ f, F.fn f) {o : Int} {t : Tx} {l : Value} (hl : l.oneCell' = true) (hd : ∀ u, (a.put (some d) u).eval (.tmp d) = u) (hy : ∀ u, (a.put (some d) u).eval y = qV o t l) (h : ∀ g w', w'.heap[g]? = some (.cells (qA o t l) 30 (0, 0)) → Below w.heap.size w w' → w.heap.size ≤ g → wpListIn F n Tryz.prog ops Q rest (a.put (some d) (.pointer (some ⟨g, 0, none⟩))) w') : wpListIn F n Tryz.prog ops Q (⟨some d, .alloc 30, ty, pos, after, none⟩ :: ⟨none, .store 30 (.tmp d) y, ty2, pos2, after2, none⟩ :: rest) a w := by
  refine wlI_val hF (fun c => nofun) (run_alloc30 _ _ _ _ _ w) ?_
  have hg := heap_alloc_new w (.cells (qA 0 [] (.slice none 0 0)) 30)
  have e := store30r hg (o' := o) (t' := t) (l' := l) hl
  refine wlI_skip (w' := (w.alloc (.cells (qA 0 [] (.slice none 0 0)) 30)).setRow w.heap.size (qA o t l)) hF (fun c => nofun) ?_ (h _ _ (setRow_heap _ _ _ _ 30 (0, 0) hg) ?_ (Nat.le_refl _))
  · unfold execOp
    simp only [hd, hy, Instr.storeAt, Instr.sureAddr, Sem.run_bind, Sem.run_pure, Result.andThen_ok, e]
  · refine ⟨rfl, rfl, rfl, by simp, fun k hk => ?_⟩
    rw [setRow_other _ _ _ _ (by omega)]
    exact Below.heap_alloc _ _ _ hk
theorem atI_bs28 {ps : Array (Nat × Operand)} {m : Nat} (h : wpListIn F n Tryz.prog ops Q (⟨dst, .buildSlice 28 m ps, ty, pos, after, none⟩ :: rest) a w) : wpListIn F n Tryz.prog ops Q (⟨dst, .buildSlice 28 m ps, ty, pos, after, none⟩ :: rest) a w := h
theorem wlI_bs28 (hF : ∀ f, F.fn f) {o : Int} {t : Tx} {l : Value} (hx : a.eval x = qV o t l) (k : ∀ g w', w'.heap[g]? = some (.cells (qA o t l) 30 (0, 0)) → Below w.heap.size w w' → w.heap.size ≤ g → wpListIn F n Tryz.prog ops Q rest (a.put dst (.slice (some ⟨g, 0, none⟩) 1 1)) w') : wpListIn F n Tryz.prog ops Q (⟨dst, .buildSlice 28 1 #[(0, x)], ty, pos, after, none⟩ :: rest) a w := by
  refine wlI_val hF (fun c => nofun) (w' := w.alloc (.cells (qA o t l) 30)) ?_ (k _ _ (heap_alloc_new w _) ((Below.refl _ w).alloc (Nat.le_refl _) _) (Nat.le_refl _))
  unfold execOp
  simp only [List.map_toArray, List.map_cons, List.map_nil, hx, Sem.run_bind, run_bs28, Result.andThen_ok, Sem.run_pure]
end
/-- A query that is handed out, and the value of its list. -/
structure QP where
  q : Qy
  v : Value
  h : v.oneCell' = true
abbrev encP (x : QP) : Value := qV x.1.op x.1.tx x.2
abbrev encQ (x : QP) : Array Value := #[encP x]
/-- Query j of a row can be read. -/
def RowOk (va : Option Addr) (ms : List QP) (j : Nat) (w : World) : Prop := ∀ x, ms[j]? = some x → ∃ g, va = some ⟨g, 0, none⟩ ∧ x.2.oneCell' = true ∧ ∀ w', Below w.heap.size w w' → (loadVar 30 ⟨g, j * 3, none⟩).run Tryz.prog w' = .ok (encP x) w'
/-- A query of the list: itself, its list's value, what is given of it. -/
abbrev QM := QP × List QP
structure MsOk (X : Nat → Prop) (W : World) (op : Int) (va : Option Addr) (mss : List QM) : Prop where
  row : ∀ i y, mss[i]? = some y → ∃ g, va = some ⟨g, 0, none⟩ ∧ ∀ w', Kc X W w' → (loadVar 30 ⟨g, i * 3, none⟩).run Tryz.prog w' = .ok (encP y.1) w'
  mem : ∀ y ∈ mss, ∃ ua un uc, y.1.2 = .slice ua un uc ∧ (y.1.1.op = op → un = y.2.length ∧ ∀ j w', Kc X W w' → RowOk ua y.2 j w') ∧ (y.1.1.op ≠ op → y.2 = [y.1])
abbrev flatM (mss : List QM) : List QP := mss.flatMap (·.2)
theorem kc_of {X : Nat → Prop} {w w' : World} (h : Below w.heap.size w w') : Kc X w w' := Kc.below h (Nat.le_refl _)
/-- Queries of a row. -/
theorem rowK_of {X : Nat → Prop} {W : World} {base : Nat} {f : Qf} {va : Option Addr} {vc : Nat} {zs : List Value} (ho : W.ownsRow base 30 3 (.slice va f.len vc) f.len zs) (hn : ∀ b, (Value.slice va f.len vc).ownBlock = some b → ¬ X b) (hk : Kq W (fun b => ¬ X b) f zs) :
    ∃ ms : List QP, ms.map (·.1) = f.ls ∧ (∀ x ∈ ms, QyV W (fun b => ¬ X b) (encP x) x.1 ∧ x.2.oneCell' = true) ∧ ∀ j x, ms[j]? = some x → ∃ g, va = some ⟨g, 0, none⟩ ∧ ∀ w', Kc X W w' → (loadVar 30 ⟨g, j * 3, none⟩).run Tryz.prog w' = .ok (encP x) w' := by
  have h1 : ∀ i : Fin f.ls.length, ∃ z : QP, z.1 = f.ls[i] ∧ QyV W (fun b => ¬ X b) (encP z) z.1 ∧ ∃ g, va = some ⟨g, 0, none⟩ ∧ ∀ w', Kc X W w' → (loadVar 30 ⟨g, i.1 * 3, none⟩).run Tryz.prog w' = .ok (encP z) w' := fun i => by
    obtain ⟨cv, czs, hcells, cho, chp, chk⟩ := Kq.nth hk i.1 f.ls[i] (List.getElem?_eq_getElem i.2)
    refine ⟨⟨f.ls[i], cv, ownT3_one cho⟩, rfl, ⟨cv, czs, rfl, cho, chp, chk⟩, ?_⟩
    rcases ho.2 with ⟨h1, h2⟩ | ⟨b, cap', cur, hv, _, hgb, _⟩
    · have h5 := len_ls f
      have h6 : i.1 < f.ls.length := i.2
      omega
    · cases hv
      refine ⟨b, rfl, fun w' hb => load30c (fun j u hj => ?_)⟩
      have := (owns3_kc ho hb hn).cells (g := b) rfl _ _ (hcells j u hj)
      rwa [add_plain, Nat.zero_add] at this
  obtain ⟨c, hc⟩ := Classical.axiomOfChoice h1
  refine ⟨List.ofFn (fun i : Fin f.ls.length => c i), ?_, ?_, ?_⟩
  · apply List.ext_getElem
    · simp
    · intro i h1 h2
      simp only [List.getElem_map, List.getElem_ofFn]
      exact (hc _).1
  · intro x hx
    obtain ⟨i, rfl⟩ := (List.mem_ofFn).1 hx
    exact ⟨(hc i).2.1, (c i).h⟩
  · intro j x hj
    have hl := (List.getElem?_eq_some_iff.1 hj).1
    rw [List.length_ofFn] at hl
    rw [List.getElem?_ofFn, dif_pos hl] at hj
    cases hj
    exact (hc ⟨j, hl⟩).2.2
theorem each_of {α β : Type} (f : β → α) {R : β → Prop} : ∀ (l : List α), (∀ x ∈ l, ∃ y, f y = x ∧ R y) → ∃ ys : List β, ys.map f = l ∧ ∀ y ∈ ys, R y
  | [], _ => ⟨[], rfl, fun _ h => (List.not_mem_nil h).elim⟩
  | x :: r, h => by
    obtain ⟨y, e, hy⟩ := h x (by simp)
    obtain ⟨ys, e2, hys⟩ := each_of f r (fun z hz => h z (by simp [hz]))
    refine ⟨y :: ys, by rw [List.map_cons, e, e2], fun z hz => ?_⟩
    rcases List.mem_cons.1 hz with rfl | hz
    · exact hy
    · exact hys z hz
/-- What opened goes through, of a list in memory. -/
theorem msOk_of {X : Nat → Prop} {W : World} {base : Nat} {f : Qf} {va : Option Addr} {vc : Nat} {zs : List Value} (ho : W.ownsRow base 30 3 (.slice va f.len vc) f.len zs) (hn : ∀ b, (Value.slice va f.len vc).ownBlock = some b → ¬ X b) (hk : Kq W (fun b => ¬ X b) f zs) (op : Int) :
    ∃ mss : List QM, mss.length = f.len ∧ MsOk X W op va mss ∧ (flatM mss).map (·.1) = openQ op f.ls ∧ ∀ x ∈ flatM mss, QyV W (fun b => ¬ X b) (encP x) x.1 := by
  obtain ⟨ms, hm1, hm2, hm3⟩ := rowK_of ho hn hk
  have step : ∀ x ∈ ms, ∃ y : QM, y.1 = x ∧ ((∃ ua un uc, y.1.2 = .slice ua un uc ∧ (y.1.1.op = op → un = y.2.length ∧ ∀ j w', Kc X W w' → RowOk ua y.2 j w') ∧ (y.1.1.op ≠ op → y.2 = [y.1])) ∧ y.2.map (·.1) = (if y.1.1.op = op then y.1.1.l.ls else [y.1.1]) ∧ ∀ z ∈ y.2, QyV W (fun b => ¬ X b) (encP z) z.1) := fun x hx => by
    obtain ⟨hq, hone⟩ := hm2 x hx
    obtain ⟨v, zs', e, o2, p2, k2⟩ := hq
    have e2 : x.2 = v := by
      have : qA x.1.op x.1.tx x.2 = qA x.1.op x.1.tx v := by simpa [encP, qV] using e
      simpa [qA] using this
    obtain ⟨ua, uc, hv, _, _⟩ := owns3_val o2
    subst hv
    by_cases hop : x.1.op = op
    · obtain ⟨ns, n1, n2, n3⟩ := rowK_of o2 p2 k2
      have hln : ns.length = x.1.l.len := by rw [← len_ls, ← n1, List.length_map]
      refine ⟨(x, ns), rfl, ⟨ua, x.1.l.len, uc, e2, fun _ => ⟨hln.symm, fun j w' hw' z hz => ?_⟩, fun h => (h hop).elim⟩, by rw [if_pos hop]; exact n1, fun z hz => (n2 z hz).1⟩
      obtain ⟨g, hg, hl⟩ := n3 j z hz
      exact ⟨g, hg, (n2 z (List.mem_of_getElem? hz)).2, fun w'' hb => hl w'' (hw'.trans (kc_of hb))⟩
    · refine ⟨(x, [x]), rfl, ⟨ua, x.1.l.len, uc, e2, fun h => (hop h).elim, fun _ => rfl⟩, by rw [if_neg hop]; rfl, fun z hz => ?_⟩
      rw [List.mem_singleton.1 hz]
      exact (hm2 x hx).1
  obtain ⟨mss, hs1, hs2⟩ := each_of (fun y : QM => y.1) ms step
  have hlen : mss.length = f.len := by rw [← len_ls, ← hm1, ← hs1]; simp
  refine ⟨mss, hlen, ⟨fun i y hy => ?_, fun y hy => (hs2 y hy).1⟩, ?_, fun x hx => ?_⟩
  · refine hm3 i y.1 ?_
    rw [← hs1, List.getElem?_map, hy]; rfl
  · have : ∀ mss : List QM, (∀ y ∈ mss, y.2.map (·.1) = (if y.1.1.op = op then y.1.1.l.ls else [y.1.1])) → (flatM mss).map (·.1) = openQ op (mss.map (·.1.1)) := fun mss => by
      induction mss with
      | nil => intro _; rfl
      | cons y r ih =>
        intro h
        simp only [flatM, List.flatMap_cons, List.map_append, List.map_cons, openQ] at *
        rw [ih (fun z hz => h z (by simp [hz])), h y (by simp)]
    rw [this mss (fun y hy => (hs2 y hy).2.1), ← hm1, ← hs1, List.map_map]
    rfl
  · obtain ⟨y, hy, hxy⟩ := List.mem_flatMap.1 hx
    exact (hs2 y hy).2.2 x hxy
end Go.Proofs.YtnffbmipllhjdaaGreatDoor.G

namespace Go.Proofs.YtnffbmipllhjdaaGreatDoor.G
open Go.RowKit Go.Shelf
set_option linter.unusedVariables false
set_option linter.unusedSimpArgs false
attribute [local go_sem] Oper.semAt_some

theorem flatM_take (mss : List QM) (k : Nat) (y : QM) (h : mss[k]? = some y) : flatM (mss.take (k + 1)) = flatM (mss.take k) ++ y.2 := by
  rw [List.take_add_one, h]
  simp [flatM]
theorem flatM_pre (mss : List QM) (k : Nat) : flatM (mss.take k) <+: flatM mss := by
  refine ⟨flatM (mss.drop k), ?_⟩
  rw [← List.flatMap_append, List.take_append_drop]
theorem pre_in {mss : List QM} {k : Nat} {y : QM} (h : mss[k]? = some y) {j : Nat} {x : QP} (hx : y.2[j]? = some x) : flatM (mss.take k) ++ y.2.take j ++ [x] <+: flatM mss := by
  refine List.IsPrefix.trans ?_ (flatM_pre mss (k + 1))
  rw [flatM_take mss k y h, List.append_assoc, List.prefix_append_right_inj]
  have := List.take_prefix (j + 1) y.2
  rwa [List.take_add_one, hx] at this
theorem take_in {mss : List QM} {k : Nat} {y : QM} {j : Nat} {x : QP} (hx : y.2[j]? = some x) : flatM (mss.take k) ++ y.2.take j ++ [x] = flatM (mss.take k) ++ y.2.take (j + 1) := by
  rw [List.append_assoc, List.take_add_one, hx]; rfl
set_option maxHeartbeats 4000000 in
set_option maxRecDepth 100000 in
theorem opened1_in (X : Nat → Prop) (n : Nat) (hn : 1 ≤ n) (l Bl Bo : Nat) (op : Int) (va : Option Addr) (vc : Nat) (mss : List QM) (hX1 : ¬ X Bl) (hX2 : ¬ X Bo) (J Jx : List QP → World → Prop)
    (W : World) (hY : ∀ pre x W1, J pre W1 → pre ++ [x] <+: flatM mss → W.heap.size + 0 ≤ W1.heap.size → YieldAt Fence.wide (n - 1) Tryz.prog l (encQ x) W1 fun e W' =>
      KeepsFrom W.heap.size W1 W' ∧ ((e = .returned (.bool true) ∧ J (pre ++ [x]) W' ∧ Kc X W1 W') ∨ (e = .returned (.bool false) ∧ Jx (pre ++ [x]) W')))
    (hJo : OwnFrom W.heap.size J) (hM : MsOk X W op va mss) (hlen : mss.length ≤ 1000000)
    (hBl : W.heap[Bl]? = some (.cells #[.slice va mss.length vc] 28 (0, 0))) (hBo : W.heap[Bo]? = some (.cells #[.int .i64 op] 3 (0, 0))) (h0 : J [] W) (hml : ∀ y ∈ mss, y.2.length ≤ 1000000) :
    CallsIn Fence.wide n Tryz.prog 218 #[.func (.yield l) #[] #[], .pointer (some ⟨Bl, 0, none⟩), .pointer (some ⟨Bo, 0, none⟩)] W fun e W' => (∃ v, e = .returned v) ∧ ((∃ ys, ys = flatM mss ∧ J ys W') ∨ (∃ pre, pre <+: flatM mss ∧ Jx pre W')) := by
  have c0 : W.cell? ⟨Bl, 0, none⟩ = some (.slice va mss.length vc) := cell_row hBl 0 rfl
  replace hY := hide hY
  replace hJo := hide hJo
  replace hM := hide hM
  replace hml := hide hml
  replace hBl := hide hBl
  replace hBo := hide hBo
  obtain ⟨m, hm⟩ : ∃ m, mss.length = m := ⟨_, rfl⟩
  rw [hm] at c0 hlen
  replace hm := hide hm
  refine callsIn_of_wp Tryz.func218 rfl trivial ?_ rfl
  simp only [Tryz.ntmps218, List.size_toArray, List.length_cons, List.length_nil, Nat.reduceAdd, Nat.reduceSub, Array.replicate_succ, Array.replicate_zero, List.push_toArray, List.append_toArray, List.nil_append, List.cons_append]
  gi_wp2_with (first | ((with_reducible refine atI_load 28 ?_); refine wlI_load 28 wide_fn rfl (ld28 c0) ?_))
  gi_loopw [11] (fun i wr => ∃ k : Nat, k ≤ m ∧ i = .int .i64 ((k : Nat) : Int) ∧ Hid (J (flatM (mss.take k)) wr) ∧ Hid (Kc X W wr)) (fun i _ => m - (RowKit.intOf i).toNat)
  case atStart => exact ⟨0, Nat.zero_le _, rfl, by show J _ _; simpa using h0, Kc.refl _ _⟩
  case round =>
    obtain ⟨k, hk, rfl, hJs, hKs⟩ := hrel
    by_cases hlt : k < m
    · have i1 : (k : Int) < (m : Int) := by omega
      obtain ⟨y, hy⟩ : ∃ y, mss[k]? = some y := ⟨_, List.getElem?_eq_getElem (by rw [hm.out]; exact hlt)⟩
      obtain ⟨g, hva, hld⟩ := hM.out.row k y hy
      obtain ⟨ua, un, uc, hy2, hA, hB⟩ := hM.out.mem y (List.mem_of_getElem? hy)
      have hyl2 := hml.out y (List.mem_of_getElem? hy)
      subst hva
      have hldH := hide (hld wr hKs.out)
      clear hld
      replace hA := hide hA
      replace hB := hide hB
      have hyo : y.1.2.oneCell' = true := by rw [hy2]; rfl
      have cBo := hide (hKs.out.2 Bo _ _ _ hX2 hBo.out)
      by_cases hop : y.1.1.op = op
      · have hopb : (y.1.1.op == op) = true := by simpa using hop
        obtain ⟨hun, hrk⟩ := hA.out hop
        subst hun
        clear hop
        gi_wp2_with (first | ((with_reducible refine atI_load 30 ?_); refine wlI_load 30 wide_fn rfl hldH.out ?_) | ((with_reducible refine atI_new30 ?_); refine wlI_new30 (o := y.1.1.op) (t := y.1.1.tx) (l := y.1.2) wide_fn hyo (fun _ => rfl) (fun _ => rfl) ?_; intro g5 w5 hb5 B5 q5; replace hb5 := hide hb5; replace B5 := hide B5) | ((with_reducible refine atI_load 30 ?_); refine wlI_load 30 wide_fn rfl (load30 hb5.out) ?_) | ((with_reducible refine atI_bs28 ?_); refine wlI_bs28 (o := y.1.1.op) (t := y.1.1.tx) (l := y.1.2) wide_fn rfl ?_; intro g6 w6 hb6 B6 q6; replace hb6 := hide hb6; replace B6 := hide B6; have cb5 := hide ((B6.out.block g5 (Array.getElem?_eq_some_iff.1 hb5.out).1).trans hb5.out); have cbo := hide ((B6.out.block Bo (by have := (Array.getElem?_eq_some_iff.1 cBo.out).1; have := B5.out.size; omega)).trans ((B5.out.block Bo (Array.getElem?_eq_some_iff.1 cBo.out).1).trans cBo.out))) | ((with_reducible refine atI_load 3 ?_); refine wlI_load 3 wide_fn rfl (ld3 (cell_row cb5.out 0 (v := .int .i64 y.1.1.op) rfl)) ?_) | ((with_reducible refine atI_load 3 ?_); refine wlI_load 3 wide_fn rfl (ld3 (cell_row cbo.out 0 (v := .int .i64 op) rfl)) ?_) | ((with_reducible refine atI_load 28 ?_); refine wlI_load 28 wide_fn rfl (ld28 (cell_row cb5.out 2 (v := .slice ua y.2.length uc) (by rw [hy2]; rfl))) ?_))
        have b56 := B5.out.trans (B6.out.mono B5.out.size)
        have jK : Hid (J (flatM (mss.take k) ++ y.2.take 0) w6) := by
          show J _ _
          simpa using own_below hJo.out (own_below hJo.out hJs.out B5.out) B6.out
        have kK := hide (hKs.out.trans (kc_of b56))
        have r0 := hide (hrk 0 w6 kK.out)
        have hstep := hide (fun j W' (_ : 0 < j) (hk : Kc X W W') => hrk j W' hk)
        have hyl : Hid (y.2.length = y.2.length) := rfl
        clear hrk b56

        gi_loopw [25] (fun i wr => ∃ j : Nat, j ≤ y.2.length ∧ i = .int .i64 ((j : Nat) : Int) ∧ Hid (J (flatM (mss.take k) ++ y.2.take j) wr) ∧ Hid (Kc X W wr) ∧ Hid (RowOk ua y.2 j wr)) (fun i _ => y.2.length - (RowKit.intOf i).toNat)
        case atStart => exact ⟨0, Nat.zero_le _, rfl, jK, kK, r0⟩
        case round =>
          obtain ⟨j, hj, rfl, hJ2, hK2, hR2⟩ := hrel
          by_cases hlj : j < y.2.length
          · have i5 : (j : Int) < ((y.2.length : Nat) : Int) := by omega
            obtain ⟨x, hx⟩ : ∃ x, y.2[j]? = some x := ⟨_, List.getElem?_eq_getElem (by rw [hyl.out]; exact hlj)⟩
            obtain ⟨gx, hua, hxo, hld⟩ := hR2.out x hx
            subst hua
            have hpre := hide (pre_in hy hx)
            have htk := hide (take_in (mss := mss) (k := k) hx)
            have hx2 := hide hx
            clear hx
            gi_wp2_with (first | ((with_reducible refine atI_load 30 ?_); refine wlI_load 30 wide_fn rfl (hld _ (Below.refl _ _)) ?_) | ((with_reducible refine atI_new30 ?_); refine wlI_new30 (o := x.1.op) (t := x.1.tx) (l := x.2) wide_fn hxo (fun _ => rfl) (fun _ => rfl) ?_; intro g8 w8 hb8 B8 q8; obtain ⟨fn, tmps, assign, body, hyy, hRR⟩ := hY.out _ x w8 (own_below hJo.out hJ2.out B8) hpre.out (by have := hK2.out.1; have := B8.size; omega); simp only [encQ] at hyy) | ((with_reducible refine atI_load 30 ?_); refine wlI_load 30 wide_fn rfl (load30 hb8) ?_))
            refine hRR.mono ?_
            rintro e W3 ⟨_, (⟨rfl, hJ3, hk3b⟩ | ⟨rfl, hJx3⟩)⟩
            · have hJ3b : Hid (J (flatM (mss.take k) ++ y.2.take (j + 1)) W3) := by
                show J _ _
                rw [← htk.out]; exact hJ3
              have hK3 := hide (hK2.out.trans ((kc_of B8).trans hk3b))
              have hR3 := hide (hstep.out (j + 1) W3 (by omega) hK3.out)
              clear hk3b hJ3
              gi_wp2
              go_roundw
              case rel => exact ⟨j + 1, by omega, by simp, hJ3b, hK3, hR3⟩
              case measure => simp [RowKit.intOf]; omega
            · gi_wp2
              refine bodyPost_ret (results_none rfl _ _ _) rfl ?_
              exact ⟨⟨_, rfl⟩, .inr ⟨_, hpre.out, hJx3⟩⟩
          · obtain rfl : j = y.2.length := by omega
            have i5 : ¬ (((y.2.length : Nat) : Int) < ((y.2.length : Nat) : Int)) := by omega
            rw [show y.2.take (y.2.length) = y.2 from List.take_of_length_le (by rw [hyl.out]; exact Nat.le_refl _)] at hJ2
            have hJ4 : Hid (J (flatM (mss.take (k + 1))) wr) := by
              show J _ _
              rw [flatM_take mss k y hy]; exact hJ2.out
            gi_wp2
            go_roundw
            case rel => exact ⟨k + 1, by omega, by simp, hJ4, hK2⟩
            case measure => simp [RowKit.intOf]; omega
  
      · have hopb : (y.1.1.op == op) = false := by simpa using hop
        have hyB := hB.out hop
        clear hop
        gi_wp2_with (first | ((with_reducible refine atI_load 30 ?_); refine wlI_load 30 wide_fn rfl hldH.out ?_) | ((with_reducible refine atI_new30 ?_); refine wlI_new30 (o := y.1.1.op) (t := y.1.1.tx) (l := y.1.2) wide_fn hyo (fun _ => rfl) (fun _ => rfl) ?_; intro g5 w5 hb5 B5 q5; replace hb5 := hide hb5; replace B5 := hide B5) | ((with_reducible refine atI_load 30 ?_); refine wlI_load 30 wide_fn rfl (load30 hb5.out) ?_) | ((with_reducible refine atI_bs28 ?_); refine wlI_bs28 (o := y.1.1.op) (t := y.1.1.tx) (l := y.1.2) wide_fn rfl ?_; intro g6 w6 hb6 B6 q6; replace hb6 := hide hb6; replace B6 := hide B6; have cb5 := hide ((B6.out.block g5 (Array.getElem?_eq_some_iff.1 hb5.out).1).trans hb5.out); have cbo := hide ((B6.out.block Bo (by have := (Array.getElem?_eq_some_iff.1 cBo.out).1; have := B5.out.size; omega)).trans ((B5.out.block Bo (Array.getElem?_eq_some_iff.1 cBo.out).1).trans cBo.out))) | ((with_reducible refine atI_load 3 ?_); refine wlI_load 3 wide_fn rfl (ld3 (cell_row cb5.out 0 (v := .int .i64 y.1.1.op) rfl)) ?_) | ((with_reducible refine atI_load 3 ?_); refine wlI_load 3 wide_fn rfl (ld3 (cell_row cbo.out 0 (v := .int .i64 op) rfl)) ?_))
        have b56 := B5.out.trans (B6.out.mono B5.out.size)
        have jK : Hid (J (flatM (mss.take k) ++ y.2.take 0) w6) := by
          show J _ _
          simpa using own_below hJo.out (own_below hJo.out hJs.out B5.out) B6.out
        have kK := hide (hKs.out.trans (kc_of b56))
        have hyl : Hid (y.2.length = 1) := by show _ = _; rw [hyB]; rfl
        have r0 : Hid (RowOk (some ⟨g6, 0, none⟩) y.2 0 w6) := fun x hx => by
          rw [hyB] at hx
          obtain rfl : y.1 = x := by simpa using hx
          exact ⟨g6, rfl, hyo, fun w' hb => by rw [Nat.zero_mul]; exact load30 ((hb.block g6 (Array.getElem?_eq_some_iff.1 hb6.out).1).trans hb6.out)⟩
        have hstep : Hid (∀ j W', 0 < j → Kc X W W' → RowOk (some ⟨g6, 0, none⟩) y.2 j W') := fun j W' hj _ x hx => by
          have := (List.getElem?_eq_some_iff.1 hx).1
          rw [hyl.out] at this
          omega
        replace hyB := hide hyB
        clear b56

        gi_loopw [25] (fun i wr => ∃ j : Nat, j ≤ 1 ∧ i = .int .i64 ((j : Nat) : Int) ∧ Hid (J (flatM (mss.take k) ++ y.2.take j) wr) ∧ Hid (Kc X W wr) ∧ Hid (RowOk (some ⟨g6, 0, none⟩) y.2 j wr)) (fun i _ => 1 - (RowKit.intOf i).toNat)
        case atStart => exact ⟨0, Nat.zero_le _, rfl, jK, kK, r0⟩
        case round =>
          obtain ⟨j, hj, rfl, hJ2, hK2, hR2⟩ := hrel
          by_cases hlj : j < 1
          · have i5 : (j : Int) < ((1 : Nat) : Int) := by omega
            obtain ⟨x, hx⟩ : ∃ x, y.2[j]? = some x := ⟨_, List.getElem?_eq_getElem (by rw [hyl.out]; exact hlj)⟩
            obtain ⟨gx, hua, hxo, hld⟩ := hR2.out x hx
            cases hua
            have hpre := hide (pre_in hy hx)
            have htk := hide (take_in (mss := mss) (k := k) hx)
            have hx2 := hide hx
            clear hx
            gi_wp2_with (first | ((with_reducible refine atI_load 30 ?_); refine wlI_load 30 wide_fn rfl (hld _ (Below.refl _ _)) ?_) | ((with_reducible refine atI_new30 ?_); refine wlI_new30 (o := x.1.op) (t := x.1.tx) (l := x.2) wide_fn hxo (fun _ => rfl) (fun _ => rfl) ?_; intro g8 w8 hb8 B8 q8; obtain ⟨fn, tmps, assign, body, hyy, hRR⟩ := hY.out _ x w8 (own_below hJo.out hJ2.out B8) hpre.out (by have := hK2.out.1; have := B8.size; omega); simp only [encQ] at hyy) | ((with_reducible refine atI_load 30 ?_); refine wlI_load 30 wide_fn rfl (load30 hb8) ?_))
            refine hRR.mono ?_
            rintro e W3 ⟨_, (⟨rfl, hJ3, hk3b⟩ | ⟨rfl, hJx3⟩)⟩
            · have hJ3b : Hid (J (flatM (mss.take k) ++ y.2.take (j + 1)) W3) := by
                show J _ _
                rw [← htk.out]; exact hJ3
              have hK3 := hide (hK2.out.trans ((kc_of B8).trans hk3b))
              have hR3 := hide (hstep.out (j + 1) W3 (by omega) hK3.out)
              clear hk3b hJ3
              gi_wp2
              go_roundw
              case rel => exact ⟨j + 1, by omega, by simp, hJ3b, hK3, hR3⟩
              case measure => simp [RowKit.intOf]; omega
            · gi_wp2
              refine bodyPost_ret (results_none rfl _ _ _) rfl ?_
              exact ⟨⟨_, rfl⟩, .inr ⟨_, hpre.out, hJx3⟩⟩
          · obtain rfl : j = 1 := by omega
            have i5 : ¬ (((1 : Nat) : Int) < ((1 : Nat) : Int)) := by omega
            rw [show y.2.take (1) = y.2 from List.take_of_length_le (by rw [hyl.out]; exact Nat.le_refl _)] at hJ2
            have hJ4 : Hid (J (flatM (mss.take (k + 1))) wr) := by
              show J _ _
              rw [flatM_take mss k y hy]; exact hJ2.out
            gi_wp2
            go_roundw
            case rel => exact ⟨k + 1, by omega, by simp, hJ4, hK2⟩
            case measure => simp [RowKit.intOf]; omega
  
    · obtain rfl : k = m := by omega
      have i1 : ¬ ((k : Int) < (k : Int)) := by omega
      rw [List.take_of_length_le (by rw [hm.out]; exact Nat.le_refl _)] at hJs
      gi_wp2
      go_end0
      exact ⟨⟨_, rfl⟩, .inl hJs.out⟩
end Go.Proofs.YtnffbmipllhjdaaGreatDoor.G

namespace Go.Proofs.YtnffbmipllhjdaaGreatDoor.G
open Go.RowKit Go.Shelf Go.Maps Go.WideMaps
set_option linter.unusedVariables false
set_option linter.unusedSimpArgs false
attribute [local go_sem] Oper.semAt_some

section
variable {F : Fence} {n : Nat} {w w' : World} {ops : Array Oper} {rest : List Oper} {a : Act} {Q : Exit → Act → World → Prop} {dst : Option Nat} {x y : Operand} {ty : TypeId} {pos : String} {after : Array Edge}
theorem wlI_box98 (hF : ∀ f, F.fn f) {f : Fn} {xs ys : Array Value} (hx : a.eval x = .func f xs ys) (h : ∀ g w', g = w.heap.size → w'.heap[g]? = some (.cells #[.func f xs ys] 98 (0, 0)) → Below w.heap.size w w' → w'.heap.size = w.heap.size + 1 → wpListIn F n Tryz.prog ops Q rest (a.put dst (.pointer (some ⟨g, 0, none⟩))) w') : wpListIn F n Tryz.prog ops Q (⟨dst, .box 98 x, ty, pos, after, none⟩ :: rest) a w := by
  have e : (execOp a.eval ⟨dst, .box 98 x, ty, pos, after, none⟩).run Tryz.prog w = .ok (.value (.pointer (some ⟨w.heap.size, 0, none⟩))) (w.alloc (.cells #[.func f xs ys] 98)) := by
    unfold execOp
    simp only [hx]
    kernel_rfl
  exact wlI_val hF (fun c => nofun) e (h _ _ rfl (heap_alloc_new w _) ((Below.refl _ w).alloc (Nat.le_refl _) _) (by simp))
end
theorem ld98 {w : World} {ad : Addr} {v : Value} (h : w.cell? ad = some v) : (loadVar 98 ad).run Tryz.prog w = .ok v w := by
  have ha : ∀ w, (isAgg 98).run Tryz.prog w = .ok false w := fun w => by kernel_rfl
  simp [loadVar, ha, go_sem, h]
theorem ld49 {w : World} {ad : Addr} {v : Value} (h : w.cell? ad = some v) : (loadVar 49 ad).run Tryz.prog w = .ok v w := by
  have ha : ∀ w, (isAgg 49).run Tryz.prog w = .ok false w := fun w => by kernel_rfl
  simp [loadVar, ha, go_sem, h]
theorem ld243 {w : World} {ad : Addr} {v : Value} (h : w.cell? ad = some v) : (loadVar 243 ad).run Tryz.prog w = .ok v w := by
  have ha : ∀ w, (isAgg 243).run Tryz.prog w = .ok false w := fun w => by kernel_rfl
  simp [loadVar, ha, go_sem, h]
abbrev tk (x : QP) : Tx := x.1.tell
/-- What lies still while distinct goes on. -/
structure DsQ (X : Nat → Prop) (V : World) (gy gt m l : Nat) (had : List Tx) (W : World) : Prop where
  kc : Kc X V W
  y : W.heap[gy]? = some (.cells #[.func (.yield l) #[] #[]] 98 (0, 0))
  t : W.heap[gt]? = some (.cells #[.map (some m)] 102 (0, 0))
  s : SetT W m had
theorem DsQ.kc2 {X : Nat → Prop} {V : World} {gy gt m l : Nat} {had : List Tx} {W W' : World} (h : DsQ X V gy gt m l had W) (hk : Kc X W W') (hy : ¬ X gy) (ht : ¬ X gt) (hm : W'.heap[m]? = W.heap[m]?) : DsQ X V gy gt m l had W' :=
  ⟨h.kc.trans hk, hk.2 gy _ _ _ hy h.y, hk.2 gt _ _ _ ht h.t, h.s.block hm⟩
theorem DsQ.below {X : Nat → Prop} {V : World} {gy gt m l : Nat} {had : List Tx} {W W' : World} (h : DsQ X V gy gt m l had W) (hb : Below W.heap.size W W') : DsQ X V gy gt m l had W' :=
  ⟨h.kc.trans (kc_of hb), (hb.block gy (Array.getElem?_eq_some_iff.1 h.y).1).trans h.y, (hb.block gt (Array.getElem?_eq_some_iff.1 h.t).1).trans h.t, h.s.block (hb.block m h.s.lt)⟩
theorem disBy_pre {α β : Type} [DecidableEq β] (f : α → β) (a b : List α) : ∀ had : List β, disBy f had a <+: disBy f had (a ++ b) := by
  induction a with
  | nil => intro had; exact List.nil_prefix
  | cons x r ih =>
    intro had
    by_cases h : f x ∈ had
    · simpa [disBy, h] using ih had
    · simpa [disBy, h] using ih (f x :: had)
theorem disBy_prefix {α β : Type} [DecidableEq β] {f : α → β} {a L : List α} (h : a <+: L) (had : List β) : disBy f had a <+: disBy f had L := by
  obtain ⟨b, rfl⟩ := h
  exact disBy_pre f a b had
theorem QyV.kc {X : Nat → Prop} {w w' : World} {x : Value} {q : Qy} (h : QyV w (fun b => ¬ X b) x q) (hk : Kc X w w') : QyV w' (fun b => ¬ X b) x q := by
  obtain ⟨v, zs, e, o, p, k⟩ := h
  exact ⟨v, zs, e, owns3_kc o hk p, p, k.kc hk⟩
theorem QyV.weaken {X Y : Nat → Prop} {w : World} {x : Value} {q : Qy} (h : QyV w (fun b => ¬ Y b) x q) (hx : ∀ k, X k → Y k) : QyV w (fun b => ¬ X b) x q := h.mono (fun b _ hb hb2 => hb (hx b hb2))
set_option maxHeartbeats 8000000 in
set_option maxRecDepth 100000 in
theorem distinctQ_stops (X0 : Nat → Prop) (n : Nat) (h3 : 3 ≤ n) (gs gk gf : Nat) (lb : Array Value) (L : List QP) (hLx : ∀ x ∈ L, x.1.tell.length ≤ 1000000000) (hLn : L.length < maxLen) (w : World) (hLQ : ∀ x ∈ L, QyV w (fun b => ¬ X0 b) (encP x) x.1)
    (eg : ∀ args w, (callFunc gf args).run Tryz.prog w = .ok (.enter gf args) w)
    (hs : w.heap[gs]? = some (.cells #[.func (.func gf) #[] lb] 243 (0, 0))) (hk : w.heap[gk]? = some (.cells #[.func (.func 49) #[] #[]] 49 (0, 0))) (hkB : ¬ X0 gk)
    (hseq : ∀ W, Below w.heap.size w W → SeqB 0 Fence.wide (n - 1) Tryz.prog gf lb encQ (fun _ => Kc (fun k => X0 k ∧ k ≠ W.heap.size ∧ k ≠ W.heap.size + 2)) (fun ys => ys = L) (fun pre => pre <+: L) (fun pre x => pre ++ [x] <+: L) w) :
    SeqB 2 Fence.wide n Tryz.prog 217 #[.pointer (some ⟨gs, 0, none⟩), .pointer (some ⟨gk, 0, none⟩)] encQ (fun B => Kc (fun k => X0 k ∧ k ≠ B ∧ k ≠ B + 2)) (fun ys => ys = disBy tk [] L) (fun pre => pre <+: disBy tk [] L) (fun pre x => pre ++ [x] <+: disBy tk [] L) w := fun l J Jx V hV hJ hJx hYY hJ0 => by
  have hs0 := hV.size
  have cS := cell_row ((hV.block gs (Array.getElem?_eq_some_iff.1 hs).1).trans hs) 0 (v := .func (.func gf) #[] lb) rfl
  have hkV : Hid (V.heap[gk]? = some (.cells #[.func (.func 49) #[] #[]] 49 (0, 0))) := (hV.block gk (Array.getElem?_eq_some_iff.1 hk).1).trans hk
  have hkl := (Array.getElem?_eq_some_iff.1 hk).1
  have hsl := (Array.getElem?_eq_some_iff.1 hs).1
  have hsq := hide (hseq V hV)
  have hLQV := hide (fun x hx => (hLQ x hx).kc (kc_of hV))
  replace hYY := hide hYY
  replace hJ := hide hJ
  replace hJx := hide hJx
  replace hJ0 := hide hJ0
  replace hLx := hide hLx
  replace hLn := hide hLn
  have hVH := hide hV
  clear hs hk hseq hV hLQ
  show CallsIn Fence.wide n Tryz.prog 217 #[.func (.yield l) #[] #[], .pointer (some ⟨gs, 0, none⟩), .pointer (some ⟨gk, 0, none⟩)] V _
  have hmm := @run_makeMap Tryz.prog
  refine callsIn_of_wp_marks Tryz.func217 rfl trivial ?_ rfl
  simp only [Tryz.ntmps217, List.size_toArray, List.length_cons, List.length_nil, Nat.reduceAdd, Nat.reduceSub, Array.replicate_succ, Array.replicate_zero, List.push_toArray, List.append_toArray, List.nil_append, List.cons_append]
  gi_wp2_with (first | ((with_reducible refine atI_box 98 ?_); refine wlI_box98 wide_fn rfl ?_; intro gy w1 ey hy1 B1 s1; replace hy1 := hide hy1; replace B1 := hide B1) | ((with_reducible refine atI_alloc 102 ?_); refine wlI_alloc102 wide_fn ?_; intro gt w3 et ht3 B3 s3) | ((with_reducible refine atI_store 102 ?_); refine wlI_st102 wide_fn ht3 rfl rfl ?_; intro w4 ht4 B4 s4; replace ht4 := hide ht4; (have bV4 : Below V.heap.size V w4 := ((B1.out.trans (((Below.refl _ w1).alloc (Nat.le_refl _) (.map #[] 0)).mono (by omega))).trans (B3.mono (by simp; omega))).trans (B4.below (B := V.heap.size) (by simp at s3; omega) (fun k e => by simp at et; omega))); (have cS4 := (bV4.cell (p := ⟨gs, 0, none⟩) (by show gs < V.heap.size; omega)).trans cS)) | ((with_reducible refine atI_load 243 ?_); refine wlI_load 243 wide_fn rfl (ld243 cS4) ?_))
  have sa : (w1.alloc (Obj.map #[] 0)).heap.size = w1.heap.size + 1 := by simp
  have sz4 : w4.heap.size = V.heap.size + 3 := by omega
  have egt : gt = V.heap.size + 1 + 1 := by omega
  subst ey
  subst egt
  have y4 : w4.heap[V.heap.size]? = some (.cells #[.func (.yield l) #[] #[]] 98 (0, 0)) := ((B4.block _ (by omega) (fun e => by omega)).trans ((B3.block _ (by omega)).trans (Below.heap_alloc _ _ _ (by omega)))).trans hy1.out
  have m4 : SetT w4 (V.heap.size + 1) [] := by
    have := setT_made w1
    rw [s1] at this
    exact this.block ((B4.block _ (by omega) (fun e => by omega)).trans (B3.block _ (by omega)))
  obtain ⟨X, hXd⟩ : ∃ X : Nat → Prop, X = fun k => X0 k ∧ k ≠ V.heap.size ∧ k ≠ V.heap.size + 2 := ⟨_, rfl⟩
  rw [← hXd] at hsq hYY
  have nX : ∀ k, X k → X0 k ∧ k ≠ V.heap.size ∧ k ≠ V.heap.size + 2 := fun k h => by rw [hXd] at h; exact h
  have I0 : DsQ X V V.heap.size (V.heap.size + 1 + 1) (V.heap.size + 1) l [] w4 := ⟨Kc.below bV4 (Nat.le_refl _), y4, ht4.out, m4⟩
  have J0 : J [] w4 := own_below hJ.out hJ0.out bV4
  have hy1X : ¬ X V.heap.size := fun h => (nX _ h).2.1 rfl
  have hgtX : ¬ X (V.heap.size + 1 + 1) := fun h => (nX _ h).2.2 rfl
  replace hXd := hide hXd
  replace nX := hide nX
  replace y4 := hide y4
  have hb0 := hVH.out.trans (bV4.mono hVH.out.size)
  clear B4 B3 cS4 cS m4 et sa s1 s3 s4
  replace sz4 := hide sz4
  refine wpIn_rangeB rfl (by omega) (gf := gf) (lb := lb) rfl (wide_fn gf) eg hsq.out
    (fun h k => h.trans k) (fun Wd l o o' hl ho hc _ => ⟨by simp [World.putObj], fun k cs t fr _ e => (World.putObj_heap_other (fun h => by rw [h, ho] at e; cases e; cases hc)).trans e⟩)
    hb0 (fun _ => rfl)
    (fun pr Wd => ∃ xs, xs = disBy tk [] pr ∧ J xs Wd ∧ DsQ X V V.heap.size (V.heap.size + 1 + 1) (V.heap.size + 1) l (pr.map tk) Wd)
    (fun cc pr Wd => cc = .ret ∧ ∃ p, p <+: disBy tk [] L ∧ Jx p Wd)
    (fun pr Wd Wd' row hs hg' hr => by
      obtain ⟨xs, e1, e2, e3⟩ := hs
      exact ⟨xs, e1, own_up hJ.out (by have := sz4.out; omega) _ _ _ _ e2 hg' hr, e3.kc2 (kc_grown hg' hr) hy1X hgtX (hg'.block _ e3.s.lt (fun e => by have := (hr _ e.symm).1; have := sz4.out; omega))⟩)
    (fun cc pr Wd Wd' row hs hg' hr => ⟨hs.1, hs.2.elim fun p hp => ⟨p, hp.1, own_up hJx.out (by have := sz4.out; omega) _ _ _ _ hp.2 hg' hr⟩⟩) ⟨[], rfl, J0, I0⟩
    (fun x a' Wd => ∃ (g5 : Nat) (u6 u7 u8 u9 u10 u11 u12 u13 u14 u15 u16 u17 u18 u19 u20 u21 u22 u23 u24 u25 u26 u27 u28 : Value), a' = { tmps := #[.func (.yield l) #[] #[], .pointer (some ⟨gs, 0, none⟩), .pointer (some ⟨gk, 0, none⟩), .pointer (some ⟨V.heap.size, 0, none⟩), .pointer (some ⟨V.heap.size + 1 + 1, 0, none⟩), (.pointer (some ⟨g5, 0, none⟩)), u6, u7, u8, u9, u10, u11, u12, u13, u14, u15, u16, u17, u18, u19, u20, u21, u22, u23, u24, u25, u26, u27, u28], defers := [] } ∧ Wd.heap[g5]? = some (.cells (qA x.1.op x.1.tx x.2) 30 (0, 0)))
    (fun x a' _ Wd Wd' row hs hg' hr => ?ax) ?assign ?body ?done ?stop
  case ax =>
    obtain ⟨g5, u6, u7, u8, u9, u10, u11, u12, u13, u14, u15, u16, u17, u18, u19, u20, u21, u22, u23, u24, u25, u26, u27, u28, e1, e2⟩ := hs
    exact ⟨g5, u6, u7, u8, u9, u10, u11, u12, u13, u14, u15, u16, u17, u18, u19, u20, u21, u22, u23, u24, u25, u26, u27, u28, e1, (hg'.block g5 (Array.getElem?_eq_some_iff.1 e2).1 (fun h => by
      obtain ⟨_, o, ho, hc⟩ := hr g5 h.symm
      rw [e2] at ho
      cases ho
      cases hc)).trans e2⟩
  case assign =>
    intro l2 pr x Wd K hi hK
    simp only [encQ, List.zip_toArray, List.zip_cons_cons, List.zip_nil_left, List.zip_nil_right, List.foldl_toArray, List.foldl_cons, List.foldl_nil, List.setIfInBounds_toArray, List.set_cons_zero, List.set_cons_succ]
    replace hK := hide hK
    replace hi := hide hi
    gi_wp2_with (first | ((with_reducible refine atI_new30 ?_); refine wlI_new30 (o := x.1.op) (t := x.1.tx) (l := x.2) (round_fn l2) x.h (fun _ => rfl) (fun _ => rfl) ?_; intro g5 w8 hb8 B8 hg8; replace hb8 := hide hb8; replace B8 := hide B8))
    obtain ⟨xs, e1, e2, e3⟩ := hi.out
    exact hK.out _ w8 (keeps_below B8.out) (kc_of B8.out) ⟨xs, e1, own_below hJ.out e2 B8.out, e3.below B8.out⟩ ⟨g5, _, _, _, _, _, _, _, _, _, _, _, _, _, _, _, _, _, _, _, _, _, _, _, rfl, hb8.out⟩
  case body =>
    rintro l2 pr x a' Wd hl ⟨r, hr⟩ ⟨xs, hxs, hj, hd⟩ ⟨g5, u6, u7, u8, u9, u10, u11, u12, u13, u14, u15, u16, u17, u18, u19, u20, u21, u22, u23, u24, u25, u26, u27, u28, rfl, hg5⟩ hY hsz
    have cK := cell_row (hd.kc.2 gk _ _ _ (fun h => hkB (nX.out _ h).1) hkV.out) 0 (v := .func (.func 49) #[] #[]) rfl
    have hxL : x ∈ L := hY.subset (by simp)
    have hxm := hLx.out x hxL
    have hkey := hkey9 (s := tk x) (by unfold maxLen; show x.1.tell.length ≤ _; omega)
    have hprn : pr.length < maxLen := by have := hY.length_le; have := hLn.out; simp at *; omega
    have TD := hide (fun n => callsIn_wide (n := n).2 (told_any x.1 _ (encP x) Wd (((hLQV.out x hxL).weaken (fun k hk => (nX.out k hk).1)).kc hd.kc) hxm))
    have h5H := hide hg5
    replace hr := hide hr
    have hjH := hide hj
    have hdH := hide hd
    replace hxs := hide hxs
    have hYp := hide hY
    clear hj hd hY
    gi_wp2_with (first | ((with_reducible refine atI_load 49 ?_); refine wlI_load 49 (round_fn l2) rfl (ld49 cK) ?_) | ((with_reducible refine atI_load 30 ?_); refine wlI_load 30 (round_fn l2) rfl (load30 h5H.out) ?_))
    refine ⟨trivial, fun h => (by cases h), (TD.out _).mono ?_⟩
    rintro e Wk ⟨rfl, Bk⟩
    have hjK := hide (own_below hJ.out hjH.out Bk)
    have hdK := hide (hdH.out.below Bk)
    have h5K := hide ((Bk.block g5 (Array.getElem?_eq_some_iff.1 h5H.out).1).trans h5H.out)
    have hdW := hide hdH.out.kc
    have kBk := hide (keeps_below (B := w4.heap.size) Bk)
    have cBk := hide (kc_of (X := X) Bk)
    have szk := hide Bk.size
    clear cK TD Bk hjH hdH h5H
    obtain ⟨nn, D, hnn, hown, hhas⟩ := hdK.out.s.map
    have cT := cell_row hdK.out.t 0 (v := .map (some (V.heap.size + 1))) rfl
    replace hown := hide hown
    replace hhas := hide hhas
    rw [List.length_map] at hnn
    cases hin : decide (tk x ∈ pr.map tk) with
    | true =>
      have hin2 : tk x ∈ pr.map tk := of_decide_eq_true hin
      have hh := hhas.out (tk x)
      rw [hin] at hh
      replace hin := hide hin
      gi_wp2_with (first | ((with_reducible refine atI_load 102 ?_); refine wlI_load 102 (round_fn l2) rfl (ld102 cT) ?_) | (gi_at_lookup; refine wpListIn_lookup_own_unit _ rfl (.tmp 16) (.tmp 17) 102 rfl 9 103 law9 Tryz.underlying102 (zero103 _) _ nn D rfl hown.out _ (txkey (tk x)) rfl hkey ?_; rw [hh]) | ((with_reducible refine atI_alloc 103 ?_); refine wlI_alloc103 (round_fn l2) ?_; intro g7 w7 e7 h7 B7; clear h7; replace B7 := hide B7) | ((with_reducible refine atI_store 103 ?_); refine wlI_st103 (round_fn l2) rfl rfl ?_))
      refine ⟨keeps_trans kBk.out (keeps_below (B := w4.heap.size) B7.out) (Nat.le_refl _), cBk.out.trans (Kc.below B7.out (Nat.le_refl _)), xs, ?_, own_below hJ.out hjK.out B7.out, ?_⟩
      · rw [disBy_snoc, if_pos (.inr hin2)]; exact hxs.out
      · have d7 := hdK.out.kc2 (Kc.below B7.out (Nat.le_refl _)) hy1X hgtX (B7.out.block _ hdK.out.s.lt)
        rw [List.map_append]; exact ⟨d7.kc, d7.y, d7.t, d7.s.again hin2⟩
    | false =>
      have hin2 : ¬ tk x ∈ pr.map tk := of_decide_eq_false hin
      have hds : xs ++ [x] = disBy tk [] (pr ++ [x]) := by rw [disBy_snoc, if_neg (fun h => h.elim (fun h => (List.not_mem_nil h)) hin2), ← hxs.out]
      have hy8 : ∀ (w7 w8 : World), Below Wk.heap.size Wk w7 → w7.grownBy w8 (some (V.heap.size + 1)) → YieldAt Fence.wide (n - 1 - 1 - 1) Tryz.prog l (encQ x) w8 fun e W' =>
          KeepsFrom V.heap.size w8 W' ∧ ((e = .returned (.bool true) ∧ J (xs ++ [x]) W' ∧ Kc X w8 W') ∨ (e = .returned (.bool false) ∧ Jx (xs ++ [x]) W')) := fun w7 w8 B7 hg8 => by
        have j7 := own_below hJ.out hjK.out B7
        obtain ⟨o, ho1, ho2⟩ := hdK.out.s.obj
        have j8 : J xs w8 := hJ.out _ _ _ _ j7 hg8 (fun r e => by cases e; exact ⟨by omega, o, (B7.block _ hdK.out.s.lt).trans ho1, ho2⟩)
        have hsz8 : V.heap.size + 2 ≤ w8.heap.size := by have := hg8.size; have := B7.size; have := szk.out; have := sz4.out; omega
        exact yield_wide (hYY.out xs x w8 j8 (by rw [hds]; exact disBy_prefix hYp.out []) hsz8)
      replace hy8 := hide hy8
      replace hds := hide hds
      have hh := hhas.out (tk x)
      rw [hin] at hh
      replace hin := hide hin
      replace hin2 := hide hin2
      have m5 : Hid (g5 ≠ V.heap.size + 1) := fun e => by
        obtain ⟨o, ho1, ho2⟩ := hdK.out.s.obj
        rw [← e, h5K.out] at ho1
        cases ho1
        cases ho2
      gi_wp2_with (first | ((with_reducible refine atI_load 102 ?_); refine wlI_load 102 (round_fn l2) rfl (ld102 cT) ?_) | (gi_at_lookup; refine wpListIn_lookup_own_unit _ rfl (.tmp 16) (.tmp 17) 102 rfl 9 103 law9 Tryz.underlying102 (zero103 _) _ nn D rfl hown.out _ (txkey (tk x)) rfl hkey ?_; rw [hh]) | ((with_reducible refine atI_alloc 103 ?_); refine wlI_alloc103 (round_fn l2) ?_; intro g7 w7 e7 h7 B7; clear h7; replace B7 := hide B7; (have hown7 := hide (ownsMap_block hown.out (B7.out.block _ hdK.out.s.lt))); (have cT7 := cell_row ((B7.out.block _ (Array.getElem?_eq_some_iff.1 hdK.out.t).1).trans hdK.out.t) 0 (v := .map (some (V.heap.size + 1))) rfl)) | ((with_reducible refine atI_store 103 ?_); refine wlI_st103 (round_fn l2) rfl rfl ?_) | ((with_reducible refine atI_load 102 ?_); refine wlI_load 102 (round_fn l2) rfl (ld102 cT7) ?_) | (gi_at_mapUpdate; refine wpListIn_mapUpdate_own _ rfl (.tmp 22) (.tmp 23) (.tmp 24) 102 rfl 9 103 law9 Tryz.underlying102 unitElem _ nn D rfl hown7.out (by omega) _ _ (txkey (tk x)) rfl rfl hkey (.agg []) [] unitElem_mk ?_; intro w8 hown8 hg8; replace hown8 := hide hown8; replace hg8 := hide hg8; (obtain ⟨fn, tmps, assign, body, hy, hR⟩ := hy8.out w7 w8 B7.out hg8.out); simp only [encQ] at hy; (have g58 := (hg8.out.block g5 (by have := B7.out.size; have := (Array.getElem?_eq_some_iff.1 h5K.out).1; omega) (fun e => by (have := m5.out); (simp at e); omega)).trans ((B7.out.block _ (Array.getElem?_eq_some_iff.1 h5K.out).1).trans h5K.out)); (have cy8 := cell_row ((hg8.out.block _ (by have := B7.out.size; have := (Array.getElem?_eq_some_iff.1 hdK.out.y).1; omega) (fun e => by simp at e)).trans ((B7.out.block _ (Array.getElem?_eq_some_iff.1 hdK.out.y).1).trans hdK.out.y)) 0 (v := .func (.yield l) #[] #[]) rfl)) | ((with_reducible refine atI_load 98 ?_); refine wlI_load 98 (round_fn l2) rfl (ld98 cy8) ?_) | ((with_reducible refine atI_load 30 ?_); refine wlI_load 30 (round_fn l2) rfl (load30 g58) ?_))
      have y8 : Hid (w8.heap[V.heap.size]? = some (.cells #[.func (.yield l) #[] #[]] 98 (0, 0))) := (hg8.out.block _ (by have := B7.out.size; have := (Array.getElem?_eq_some_iff.1 hdK.out.y).1; omega) (fun e => by simp at e)).trans ((B7.out.block _ (Array.getElem?_eq_some_iff.1 hdK.out.y).1).trans hdK.out.y)
      have t8 : Hid (w8.heap[V.heap.size + 1 + 1]? = some (.cells #[.map (some (V.heap.size + 1))] 102 (0, 0))) := (hg8.out.block _ (by have := B7.out.size; have := (Array.getElem?_eq_some_iff.1 hdK.out.t).1; omega) (fun e => by simp at e)).trans ((B7.out.block _ (Array.getElem?_eq_some_iff.1 hdK.out.t).1).trans hdK.out.t)
      have m8 : Hid (SetT w8 (V.heap.size + 1) ((pr ++ [x]).map tk)) := ⟨nn + 1, _, by rw [List.length_map, List.length_append]; simp; omega, hown8.out, fun s => by
        by_cases e : s = tk x
        · subst e
          rw [has_put_same hown7.out.isMap (show WideAt.IsKeyLit (txkey (tk x)) from trivial), decide_eq_true (by simp)]
        · rw [has_put_other (fun h => e (by simpa using h)), hhas.out s]
          congr 1
          rw [List.map_append, List.mem_append, List.map_cons, List.map_nil, List.mem_singleton]
          exact propext ⟨fun h => .inl h, fun h => h.elim id (fun h => absurd h e)⟩⟩
      have k8 : Hid (Kc X Wd w8) := cBk.out.trans <| (Kc.below B7.out (Nat.le_refl _)).trans ⟨hg8.out.size, fun k cs t fr _ h => (hg8.out.block k (Array.getElem?_eq_some_iff.1 h).1 (fun e => by
        cases e
        obtain ⟨o, ho1, ho2⟩ := hdK.out.s.obj
        rw [(B7.out.block _ hdK.out.s.lt).trans ho1] at h
        cases h
        cases ho2)).trans h⟩
      have f8 : Hid (KeepsFrom w4.heap.size Wd w8) := keeps_trans (B' := w4.heap.size) kBk.out (keeps_trans (B := w4.heap.size) (B' := w4.heap.size) (keeps_below B7.out) ⟨hg8.out.size, fun k o hk ho _ => (hg8.out.block k (Array.getElem?_eq_some_iff.1 ho).1 (fun e => by cases e; have := sz4.out; omega)).trans ho⟩ (Nat.le_refl _)) (Nat.le_refl _)
      have s8 := hide m8.out.lt
      refine ⟨fun h => (by cases h), RoundIn.mono (F := Fence.wide.inRound l2) hR ?_⟩
      rintro e W3 ⟨k1, (⟨rfl, k2, k3⟩ | ⟨rfl, k2⟩)⟩
      · have fin : KeepsFrom w4.heap.size Wd W3 ∧ Kc X Wd W3 ∧ ∃ xs, xs = disBy tk [] (pr ++ [x]) ∧ J xs W3 ∧ DsQ X V V.heap.size (V.heap.size + 1 + 1) (V.heap.size + 1) l ((pr ++ [x]).map tk) W3 := by
          obtain ⟨o, ho1, ho2⟩ := m8.out.obj
          refine ⟨keeps_trans f8.out k1 (by have := sz4.out; omega), k8.out.trans k3, _, hds.out, k2, ⟨hdW.out.trans (k8.out.trans k3), k3.2 _ _ _ _ hy1X y8.out, k3.2 _ _ _ _ hgtX t8.out, m8.out.block ?_⟩⟩
          rw [ho1]
          exact k1.same _ o (by omega) ho1 ho2
        replace fin := hide fin
        clear k1 k2 k3
        gi_wp2
        exact fin.out
      · have fin : KeepsFrom w4.heap.size Wd W3 ∧ ∃ p, p <+: disBy tk [] L ∧ Jx p W3 := ⟨keeps_trans f8.out k1 (by have := sz4.out; omega), _, by rw [hds.out]; exact disBy_prefix hYp.out [], k2⟩
        replace fin := hide fin
        clear k1 k2
        gi_wp2
        exact ⟨fin.out.1, rfl, fin.out.2⟩
  case done =>
    rintro D xs Wd hD hS ⟨ys, hys, hj, hd⟩ hK
    rw [hS] at hys
    replace hys := hide hys
    replace hj := hide hj
    replace hd := hide hd
    replace hK := hide hK
    gi_wp2
    refine ⟨by simp, .inl ⟨_, _, rfl, run_takeDeferred hK.out, ?_⟩⟩
    refine ⟨_, results_none rfl _ _ _, ⟨_, rfl⟩, .inl ⟨ys, hys.out, hJ.out.putObj _ hj.out (by have := sz4.out; omega) hK.out rfl⟩⟩
  case stop =>
    rintro D cc pr Wd hD hS ⟨rfl, p, hp1, hp⟩ hK
    replace hp := hide hp
    replace hp1 := hide hp1
    replace hK := hide hK
    gi_wp2
    refine ⟨by simp, .inl ⟨_, _, rfl, run_takeDeferred hK.out, ?_⟩⟩
    refine ⟨_, results_none rfl _ _ _, ⟨_, rfl⟩, .inr ⟨p, hp1.out, hJx.out.putObj _ hp.out (by have := sz4.out; omega) hK.out rfl⟩⟩
end Go.Proofs.YtnffbmipllhjdaaGreatDoor.G
