/-
  Forms of instructions; isFit, count.
-/
import Derived.Test.YtkfdikpnnkbgaaaGreatDoorCL
import Derived.ChangeKeysEq
namespace Go.Proofs.YtkfdikpnnkbgaaaGreatDoor
open Go.RowKit
set_option linter.unusedVariables false
set_option linter.unusedSimpArgs false

def eqS (s t : S4) : Bool := s.a == t.a && (s.b == t.b && (s.c == t.c && s.d == t.d))
theorem run_eq24 (s t : S4) (d : Nat) (w : World) : (Op.equalIn (d + 2) 24 (setV s) (setV t)).run Tryz.prog w = .ok (eqS s t) w := by
  have hi : ∃ i, Tryz.prog.info? 22 = some i := by
    have h : (Tryz.prog.info? 22).isSome = true := by kernel_rfl
    exact Option.isSome_iff_exists.1 h
  obtain ⟨i, hi⟩ := hi
  have hc : Tryz.prog.cellsOf 22 = 1 := by kernel_rfl
  unfold setV
  rw [run_equalIn_array w (d + 1) (e := 22) (n := 4) (setA s) (setA t) Tryz.underlying24 hi, hc]
  have hp : ∀ (q : S4) (k : Nat), k < 4 → ∀ w, (part 22 (setA q) (k * 1)).run Tryz.prog w = .ok (.int .u64 (q.get k)) w := fun q k hk w => by
    rcases (show k = 0 ∨ k = 1 ∨ k = 2 ∨ k = 3 by omega) with rfl | rfl | rfl | rfl <;> kernel_rfl
  have he : ∀ (x y : Int) w, (Op.equalIn (d + 1) 22 (.int .u64 x) (.int .u64 y)).run Tryz.prog w = .ok (x == y) w := fun x y w => run_equalIn_int w d 22 .u64 .u64 x y Tryz.underlying22
  have h0 : ∀ q : S4, q.get 0 = q.a := fun _ => rfl
  have h1 : ∀ q : S4, q.get 1 = q.b := fun _ => rfl
  have h2 : ∀ q : S4, q.get 2 = q.c := fun _ => rfl
  have h3 : ∀ q : S4, q.get 3 = q.d := fun _ => rfl
  have step : ∀ k ks, k < 4 → ∀ w, (Op.eqItems (d + 1) 22 1 (setA s) (setA t) (k :: ks)).run Tryz.prog w = if (s.get k == t.get k) = true then (Op.eqItems (d + 1) 22 1 (setA s) (setA t) ks).run Tryz.prog w else .ok false w := fun k ks hk w => by
    simp only [Op.eqItems, Sem.run_bind, hp _ k hk, he, Result.andThen_ok]
    cases (s.get k == t.get k) <;> simp
  have last : ∀ w, (Op.eqItems (d + 1) 22 1 (setA s) (setA t) []).run Tryz.prog w = .ok true w := fun w => by simp [Op.eqItems]
  rw [show List.range 4 = [0, 1, 2, 3] from rfl, step 0 _ (by decide), step 1 _ (by decide), step 2 _ (by decide), step 3 _ (by decide), last, h0, h0, h1, h1, h2, h2, h3, h3]
  unfold eqS
  cases (s.a == t.a) <;> cases (s.b == t.b) <;> cases (s.c == t.c) <;> cases (s.d == t.d) <;> rfl
theorem run_neq24 (s t : S4) (w : World) : (binOp .neq 24 (setV s) (setV t)).run Tryz.prog w = .ok (.bool (!eqS s t)) w := by
  have h := run_eq24 s t 9998 w
  unfold setV at h ⊢
  rw [run_neq_struct, h]
  rfl
/-- What an instruction of an Op has. -/
structure Fm where
  nm : ByteArray
  hs : Bool
  ex : Nat
def fmV (f : Fm) : Value := .agg #[.string f.nm, .bool f.hs, .int .i64 (f.ex : Int)]
def fmA (f : Fm) : Array Value := #[.string f.nm, .bool f.hs, .int .i64 (f.ex : Int)]
def nByte : ByteArray := ⟨#[98, 121, 116, 101]⟩
def nSplit : ByteArray := ⟨#[115, 112, 108, 105, 116]⟩
def nEnd : ByteArray := ⟨#[101, 110, 100]⟩
def nJump : ByteArray := ⟨#[106, 117, 109, 112]⟩
def fm (op : Int) : Fm := if op = 1 then ⟨nByte, true, 1⟩ else if op = 2 then ⟨nSplit, false, 2⟩ else if op = 3 then ⟨nEnd, false, 0⟩ else if op = 4 then ⟨nJump, false, 1⟩ else ⟨⟨#[]⟩, false, 0⟩
theorem sizeF : (Tryz.prog.info? 139).map (·.size) = some 3 := by kernel_rfl
theorem loadF {w : World} {g : Nat} {f : Fm} (h : w.heap[g]? = some (.cells (fmA f) 139 (0, 0))) : (loadVar 139 ⟨g, 0, none⟩).run Tryz.prog w = .ok (fmV f) w :=
  run_loadVar_row w g 139 139 _ (0, 0) _ h Tryz.underlying139 rfl sizeF
section
variable {S : Nat → Prop} {w0 w w' : World} {L : List Ent} {ops : Array Oper} {rest : List Oper} {a : Act} {Q : Exit → Act → World → Prop} {dst : Option Nat} {x y z : Operand} {ty : TypeId} {pos : String} {after : Array Edge}
theorem wl_allocF (H : St S w0 w L) (h : ∀ g w', St S w0 w' ((true, g, 139, fmA ⟨⟨#[]⟩, false, 0⟩) :: L) → w0.heap.size ≤ g → w.heap.size ≤ g → wpList Tryz.prog ops Q rest (a.put dst (.pointer (some ⟨g, 0, none⟩))) w') : wpList Tryz.prog ops Q (⟨dst, .alloc 139, ty, pos, after, none⟩ :: rest) a w := by
  refine wl_val (w' := w.alloc (.cells (fmA ⟨⟨#[]⟩, false, 0⟩) 139)) ?_ (h _ _ (H.alloc 139 _) H.but.size (Nat.le_refl _))
  unfold execOp
  kernel_rfl
theorem wl_boxF (H : St S w0 w L) {f : Fm} (hx : a.eval x = fmV f) (h : ∀ g w', St S w0 w' ((true, g, 139, fmA f) :: L) → w0.heap.size ≤ g → w.heap.size ≤ g → wpList Tryz.prog ops Q rest (a.put dst (.pointer (some ⟨g, 0, none⟩))) w') : wpList Tryz.prog ops Q (⟨dst, .box 139 x, ty, pos, after, none⟩ :: rest) a w := by
  refine wl_val (w' := w.alloc (.cells (fmA f) 139)) ?_ (h _ _ (H.alloc 139 _) H.but.size (Nat.le_refl _))
  unfold execOp
  simp only [hx]
  kernel_rfl
theorem wl_storeF (i : Nat) (H : St S w0 w L) {g : Nat} {f f' : Fm} (h : L[i]? = some (true, g, 139, fmA f)) (hx : a.eval x = .pointer (some ⟨g, 0, none⟩)) (hy : a.eval y = fmV f')
    (k : ∀ w', St S w0 w' (L.set i (true, g, 139, fmA f')) → wpList Tryz.prog ops Q rest a w') : wpList Tryz.prog ops Q (⟨none, .store 139 x y, ty, pos, after, none⟩ :: rest) a w :=
  wl_store i 139 H h hx hy sizeF rfl (by have h2 : ∀ k n, (Value.int k n).oneCell' = true := fun _ _ => rfl; have h3 : ∀ s, (Value.string s).oneCell' = true := fun _ => rfl; have h4 : ∀ s, (Value.bool s).oneCell' = true := fun _ => rfl; simp [fmA, h2, h3, h4]) k
end
set_option maxHeartbeats 1000000 in
theorem formOf_1 (w : World) : Calls Tryz.prog 117 #[.int .i64 1] w fun e w' => e = .returned (fmV ⟨nByte, true, 1⟩) ∧ Below w.heap.size w w' := by
  have H := St.start Nope w
  go_enter Tryz.func117, Tryz.ntmps117
  go_wp2_with (first | ((with_reducible refine at_alloc 139 ?_); refine wl_allocF H ?_; clear H; intro g1 w1 H q1 q2) | ((with_reducible refine at_build 139 ?_); refine wl_val (v := fmV ⟨nByte, true, 1⟩) (w' := w1) (by unfold execOp; simp only [List.map_toArray, List.map_cons, List.map_nil]; kernel_rfl) ?_) | ((with_reducible refine at_store 139 ?_); refine wl_storeF 0 (f' := ⟨nByte, true, 1⟩) H rfl rfl rfl ?_; clear H; intro w2 H))
  refine bodyPost_ret (results_cell0 rfl _ _ _ _ rfl (loadF (H.get 0 rfl))) rfl ?_
  exact ⟨rfl, H.below⟩
set_option maxHeartbeats 1000000 in
theorem formOf_2 (w : World) : Calls Tryz.prog 117 #[.int .i64 2] w fun e w' => e = .returned (fmV ⟨nSplit, false, 2⟩) ∧ Below w.heap.size w w' := by
  have H := St.start Nope w
  go_enter Tryz.func117, Tryz.ntmps117
  go_wp2_with (first | ((with_reducible refine at_alloc 139 ?_); refine wl_allocF H ?_; clear H; intro g1 w1 H q1 q2) | ((with_reducible refine at_build 139 ?_); refine wl_val (v := fmV ⟨nSplit, false, 2⟩) (w' := w1) (by unfold execOp; simp only [List.map_toArray, List.map_cons, List.map_nil]; kernel_rfl) ?_) | ((with_reducible refine at_store 139 ?_); refine wl_storeF 0 (f' := ⟨nSplit, false, 2⟩) H rfl rfl rfl ?_; clear H; intro w2 H))
  refine bodyPost_ret (results_cell0 rfl _ _ _ _ rfl (loadF (H.get 0 rfl))) rfl ?_
  exact ⟨rfl, H.below⟩
set_option maxHeartbeats 1000000 in
theorem formOf_3 (w : World) : Calls Tryz.prog 117 #[.int .i64 3] w fun e w' => e = .returned (fmV ⟨nEnd, false, 0⟩) ∧ Below w.heap.size w w' := by
  have H := St.start Nope w
  go_enter Tryz.func117, Tryz.ntmps117
  go_wp2_with (first | ((with_reducible refine at_alloc 139 ?_); refine wl_allocF H ?_; clear H; intro g1 w1 H q1 q2) | ((with_reducible refine at_build 139 ?_); refine wl_val (v := fmV ⟨nEnd, false, 0⟩) (w' := w1) (by unfold execOp; simp only [List.map_toArray, List.map_cons, List.map_nil]; kernel_rfl) ?_) | ((with_reducible refine at_store 139 ?_); refine wl_storeF 0 (f' := ⟨nEnd, false, 0⟩) H rfl rfl rfl ?_; clear H; intro w2 H))
  refine bodyPost_ret (results_cell0 rfl _ _ _ _ rfl (loadF (H.get 0 rfl))) rfl ?_
  exact ⟨rfl, H.below⟩
set_option maxHeartbeats 1000000 in
theorem formOf_4 (w : World) : Calls Tryz.prog 117 #[.int .i64 4] w fun e w' => e = .returned (fmV ⟨nJump, false, 1⟩) ∧ Below w.heap.size w w' := by
  have H := St.start Nope w
  go_enter Tryz.func117, Tryz.ntmps117
  go_wp2_with (first | ((with_reducible refine at_alloc 139 ?_); refine wl_allocF H ?_; clear H; intro g1 w1 H q1 q2) | ((with_reducible refine at_build 139 ?_); refine wl_val (v := fmV ⟨nJump, false, 1⟩) (w' := w1) (by unfold execOp; simp only [List.map_toArray, List.map_cons, List.map_nil]; kernel_rfl) ?_) | ((with_reducible refine at_store 139 ?_); refine wl_storeF 0 (f' := ⟨nJump, false, 1⟩) H rfl rfl rfl ?_; clear H; intro w2 H))
  refine bodyPost_ret (results_cell0 rfl _ _ _ _ rfl (loadF (H.get 0 rfl))) rfl ?_
  exact ⟨rfl, H.below⟩
set_option maxHeartbeats 1000000 in
theorem formOf_0 (op : Int) (n1 : (op == 1) = false) (n2 : (op == 2) = false) (n3 : (op == 3) = false) (n4 : (op == 4) = false) (w : World) : Calls Tryz.prog 117 #[.int .i64 op] w fun e w' => e = .returned (fmV ⟨⟨#[]⟩, false, 0⟩) ∧ Below w.heap.size w w' := by
  have H := St.start Nope w
  go_enter Tryz.func117, Tryz.ntmps117
  go_wp2_with (first | ((with_reducible refine at_alloc 139 ?_); refine wl_allocF H ?_; clear H; intro g1 w1 H q1 q2) | ((with_reducible refine at_build 139 ?_); refine wl_val (v := fmV ⟨⟨#[]⟩, false, 0⟩) (w' := w1) (by unfold execOp; simp only [List.map_toArray, List.map_cons, List.map_nil]; kernel_rfl) ?_) | ((with_reducible refine at_store 139 ?_); refine wl_storeF 0 (f' := ⟨⟨#[]⟩, false, 0⟩) H rfl rfl rfl ?_; clear H; intro w2 H))
  refine bodyPost_ret (results_cell0 rfl _ _ _ _ rfl (loadF (H.get 0 rfl))) rfl ?_
  exact ⟨rfl, H.below⟩
theorem formOf_any (op : Int) (w : World) : Calls Tryz.prog 117 #[.int .i64 op] w fun e w' => e = .returned (fmV (fm op)) ∧ Below w.heap.size w w' := by
  unfold fm
  split
  · subst op; exact formOf_1 w
  · split
    · subst op; exact formOf_2 w
    · split
      · subst op; exact formOf_3 w
      · split
        · subst op; exact formOf_4 w
        · rename_i h1 h2 h3 h4
          exact formOf_0 op (beq_eq_false_iff_ne.2 h1) (beq_eq_false_iff_ne.2 h2) (beq_eq_false_iff_ne.2 h3) (beq_eq_false_iff_ne.2 h4) w
end Go.Proofs.YtkfdikpnnkbgaaaGreatDoor
