/-
  Instructions in memory; what a code's closure does; codes in memory.
-/
import Derived.Test.YtkfdikpnnkbgaaaGreatDoorMA
namespace Go.Proofs.YtkfdikpnnkbgaaaGreatDoor
open Go.RowKit
set_option linter.unusedVariables false
set_option linter.unusedSimpArgs false

def insA (i : Ins) : Array Value := #[.int .i64 i.op, .int .u64 i.s.a, .int .u64 i.s.b, .int .u64 i.s.c, .int .u64 i.s.d, .int .i64 i.x, .int .i64 i.y]
def insV (i : Ins) : Value := .agg (insA i)
def ins0 : Ins := ⟨0, noSet, 0, 0⟩
def flatI (L : List Ins) : List Value := L.flatMap (fun i => (insA i).toList)
theorem flatI_len (L : List Ins) : (flatI L).length = L.length * 7 := by
  induction L with
  | nil => rfl
  | cons i r ih => simp [flatI, insA] at ih ⊢; omega
theorem flatI_append (L M : List Ins) : flatI (L ++ M) = flatI L ++ flatI M := by simp [flatI]
theorem flatI_at : ∀ (L : List Ins) (k : Nat) (i : Ins), L[k]? = some i → ∀ j u, (insA i)[j]? = some u → (flatI L)[k * 7 + j]? = some u
  | [], k, i, h, _, _, _ => by simp at h
  | x :: r, 0, i, h, j, u, hj => by
    simp only [List.getElem?_cons_zero, Option.some.injEq] at h
    subst h
    have hj' : j < 7 := by have := (Array.getElem?_eq_some_iff.1 hj).1; simpa [insA] using this
    show (flatI (x :: r))[0 * 7 + j]? = _
    simp only [flatI, List.flatMap_cons]
    rw [List.getElem?_append_left (by simp [insA]; omega)]
    simpa using hj
  | x :: r, k + 1, i, h, j, u, hj => by
    have := flatI_at r k i (by simpa using h) j u hj
    simp only [flatI, List.flatMap_cons] at this ⊢
    rw [List.getElem?_append_right (by simp [insA]; omega)]
    simp only [insA, List.length_cons, List.length_nil]
    rw [show (k + 1) * 7 + j - (0 + 1 + 1 + 1 + 1 + 1 + 1 + 1) = k * 7 + j by omega]
    exact this
theorem insA_one (i : Ins) : ∀ u ∈ (insA i).toList, u.oneCell' = true := fun u hu => by
  have h1 : ∀ k n, (Value.int k n).oneCell' = true := fun _ _ => rfl
  simp only [insA, List.mem_cons, List.not_mem_nil, or_false] at hu
  rcases hu with rfl | rfl | rfl | rfl | rfl | rfl | rfl <;> exact h1 _ _
theorem insA_all (i : Ins) : (insA i).all (·.oneCell') = true := by simp [insA, Value.oneCell']
theorem sizeI : (Tryz.prog.info? 102).map (·.size) = some 7 := by kernel_rfl
theorem infoI : ∃ i, Tryz.prog.info? 102 = some i ∧ i.zero = some (insV ins0) ∧ i.size = 7 ∧ i.bytes = 56 := by
  have h : (Tryz.prog.info? 102).map (fun i => (i.zero, i.size, i.bytes)) = some (some (insV ins0), 7, 56) := by kernel_rfl
  cases hi : Tryz.prog.info? 102 with
  | none => rw [hi] at h; cases h
  | some i =>
    rw [hi] at h
    simp only [Option.map_some, Option.some.injEq, Prod.mk.injEq] at h
    exact ⟨i, rfl, h.1, h.2.1, h.2.2⟩
theorem run_bsI (i : Ins) (w : World) : (Instr.buildSlice 30 1 #[(0, insV i)]).run Tryz.prog w = .ok (.slice (some ⟨w.heap.size, 0, none⟩) 1 1) (w.alloc (.cells (insA i) 102)) := by kernel_rfl
theorem run_boxI (dst : Option Nat) (ty : TypeId) (pos : String) (after : Array Edge) (ev : Operand → Value) (x : Operand) (i : Ins) (hx : ev x = insV i) (w : World) : (execOp ev ⟨dst, .box 102 x, ty, pos, after, none⟩).run Tryz.prog w = .ok (.value (.pointer (some ⟨w.heap.size, 0, none⟩))) (w.alloc (.cells (insA i) 102)) := by
  unfold execOp
  simp only [hx]
  kernel_rfl
theorem run_allocI (dst : Option Nat) (ty : TypeId) (pos : String) (after : Array Edge) (ev : Operand → Value) (w : World) : (execOp ev ⟨dst, .alloc 102, ty, pos, after, none⟩).run Tryz.prog w = .ok (.value (.pointer (some ⟨w.heap.size, 0, none⟩))) (w.alloc (.cells (insA ins0) 102)) := by
  unfold execOp
  kernel_rfl
theorem loadI {w : World} {g : Nat} {i : Ins} (h : w.heap[g]? = some (.cells (insA i) 102 (0, 0))) : (loadVar 102 ⟨g, 0, none⟩).run Tryz.prog w = .ok (insV i) w :=
  run_loadVar_row w g 102 102 _ (0, 0) _ h Tryz.underlying102 rfl sizeI
theorem loadIc {w : World} {b o : Nat} {i : Ins} (h : ∀ j v, (insA i)[j]? = some v → w.cell? ⟨b, o + j, none⟩ = some v) : (loadVar 102 ⟨b, o, none⟩).run Tryz.prog w = .ok (insV i) w := by
  have h0 := h 0 _ rfl
  have h1 := h 1 _ rfl
  have h2 := h 2 _ rfl
  have h3 := h 3 _ rfl
  have h4 := h 4 _ rfl
  have h5 := h 5 _ rfl
  have h6 := h 6 _ rfl
  have hz : ∀ w, (sizeOf 102).run Tryz.prog w = .ok 7 w := fun w => by kernel_rfl
  have ha : ∀ w, (isAgg 102).run Tryz.prog w = .ok true w := fun w => by kernel_rfl
  simp only [Nat.add_zero] at h0
  simp [loadVar, hz, ha, loadCells, go_sem, h0, h1, h2, h3, h4, h5, h6, add_plain]
  rfl
/-- A row of instructions of one's own. -/
def RI (w : World) (v : Value) (L : List Ins) : Prop := w.ownsRow 0 102 7 v L.length (flatI L)
theorem RI.nil (w : World) : RI w (.slice none 0 0) [] := ⟨rfl, .inl ⟨rfl, rfl⟩⟩
theorem RI.lt {w : World} {v : Value} {L : List Ins} (h : RI w v L) {k : Nat} (hk : v.ownBlock = some k) : k < w.heap.size := (World.ownsRow.lt h k hk).2
theorem RI.val {w : World} {v : Value} {L : List Ins} (h : RI w v L) : ∃ a c, v = .slice a L.length c := by
  rcases h.2 with ⟨rfl, h0⟩ | ⟨g, cap, cur, rfl, _⟩
  · exact ⟨none, 0, by rw [h0]⟩
  · exact ⟨_, cap, rfl⟩
theorem owns_of_block {w w' : World} {base n : Nat} {e : TypeId} {size : Nat} {v : Value} {xs : List Value} (h : w.ownsRow base e size v n xs) (hb : ∀ k, v.ownBlock = some k → w'.heap[k]? = w.heap[k]?) : w'.ownsRow base e size v n xs := by
  refine ⟨h.1, ?_⟩
  rcases h.2 with h1 | ⟨g, cap, cur, rfl, h2, h3, h4⟩
  · exact .inl h1
  · exact .inr ⟨g, cap, cur, rfl, h2, (hb g rfl).trans h3, h4⟩
theorem RI.kept {w w' : World} {v : Value} {L : List Ins} (h : RI w v L) (hb : ∀ k, k < w.heap.size → v.ownBlock = some k → w'.heap[k]? = w.heap[k]?) : RI w' v L := owns_of_block h (fun k hk => hb k (h.lt hk) hk)
theorem RI.below {w w' : World} {v : Value} {L : List Ins} (h : RI w v L) (hb : Below w.heap.size w w') : RI w' v L := h.kept (fun k hk _ => hb.block k hk)
theorem RI.at {w : World} {v : Value} {L : List Ins} (h : RI w v L) {k : Nat} {i : Ins} (hk : L[k]? = some i) : ∃ g c, v = .slice (some ⟨g, 0, none⟩) L.length c ∧ g < w.heap.size ∧ ∀ j u, (insA i)[j]? = some u → w.cell? ⟨g, k * 7 + j, none⟩ = some u := by
  have hl := (List.getElem?_eq_some_iff.1 hk).1
  rcases h.2 with ⟨_, h0⟩ | ⟨g, cap, cur, rfl, _, hg, _⟩
  · omega
  · refine ⟨g, cap, rfl, (Array.getElem?_eq_some_iff.1 hg).1, fun j u hj => ?_⟩
    have := World.ownsRow.cells h (g := g) rfl _ _ (flatI_at L k i hk j u hj)
    rwa [add_plain, Nat.zero_add] at this
/-- append of an instruction, as it runs. -/
theorem run_appI (w : World) (ty : TypeId) (v : Value) (L : List Ins) (i : Ins) (h : RI w v L) (hl : L.length ≤ 1000000) (b : Nat) (hb : w.heap[b]? = some (.cells (insA i) 102 (0, 0))) :
    ∃ v' w', (Builtin.append_ #[30, 30] ty #[v, .slice (some ⟨b, 0, none⟩) 1 1]).run Tryz.prog w = .ok v' w' ∧ RI w' v' (L ++ [i]) ∧ w.grownBy w' v.ownBlock ∧ (v'.ownBlock = v.ownBlock ∨ v'.ownBlock = some w.heap.size) := by
  obtain ⟨i0, hi, hz0, hz1, hz2⟩ := infoI
  obtain ⟨v', w', h1, h2, h3, _, h5⟩ := run_append_own_at (P := Tryz.prog) w 0 30 ty 102 i0 (insV ins0) 7 56 Tryz.underlying30 hi hz0 hz1 hz2 rfl (by decide) v L.length (flatI L) h ⟨b, 0, none⟩ 1 1 (insA i).toList rfl (fun j u hj => by
    rw [add_plain, Nat.zero_add, cell_of_row w b j _ 102 (0, 0) hb]
    simpa using hj) (insA_one i) (by unfold maxLen; omega) (by omega) (Nat.zero_le _)
  refine ⟨v', w', h1, ?_, h3, h5⟩
  unfold RI
  rw [flatI_append, List.length_append]
  simpa [flatI] using h2
section
variable {S : Nat → Prop} {w0 w w' : World} {L : List Ent} {ops : Array Oper} {rest : List Oper} {a : Act} {Q : Exit → Act → World → Prop} {x y : Operand} {ty ty2 : TypeId} {pos pos2 : String} {after after2 : Array Edge}
theorem at_ins {d1 d2 : Nat} {s x : Operand} (h : wpList Tryz.prog ops Q (⟨some d1, .buildSlice 30 1 #[(0, x)], ty, pos, after, none⟩ :: ⟨some d2, .call { callee := .builtin .append, args := #[s, .tmp d1], argTypes := #[30, 30] }, ty2, pos2, after2, none⟩ :: rest) a w) :
    wpList Tryz.prog ops Q (⟨some d1, .buildSlice 30 1 #[(0, x)], ty, pos, after, none⟩ :: ⟨some d2, .call { callee := .builtin .append, args := #[s, .tmp d1], argTypes := #[30, 30] }, ty2, pos2, after2, none⟩ :: rest) a w := h
/-- An instruction is appended to a row of one's own. -/
theorem wl_ins {d1 d2 : Nat} {s : Operand} {v : Value} {I : List Ins} {i : Ins} (R : RI w v I) (hl : I.length ≤ 1000000) (hs : ∀ u, (a.put (some d1) u).eval s = v) (ht : ∀ u, (a.put (some d1) u).eval (.tmp d1) = u) (hx : a.eval x = insV i)
    (k : ∀ u v2 w2, RI w2 v2 (I ++ [i]) → But (fun k => v.ownBlock = some k) w w2 → (v2.ownBlock = v.ownBlock ∨ v2.ownBlock = some (w.heap.size + 1)) → wpList Tryz.prog ops Q rest ((a.put (some d1) u).put (some d2) v2) w2) :
    wpList Tryz.prog ops Q (⟨some d1, .buildSlice 30 1 #[(0, x)], ty, pos, after, none⟩ :: ⟨some d2, .call { callee := .builtin .append, args := #[s, .tmp d1], argTypes := #[30, 30] }, ty2, pos2, after2, none⟩ :: rest) a w := by
  refine wpList_plain rfl fun K hK => ?_
  unfold Oper.wp execOp
  simp only [List.map_toArray, List.map_cons, List.map_nil, hx, Sem.run_bind, run_bsI, Result.andThen_ok, Sem.run_pure]
  refine hK _ _ ?_
  obtain ⟨v', w2, h1, h2, h3, h4⟩ := run_appI (w.alloc (.cells (insA i) 102)) ty2 v I i (R.below ((Below.refl _ w).alloc (Nat.le_refl _) _)) hl w.heap.size (heap_alloc_new w _)
  refine wpList_plain rfl fun K2 hK2 => ?_
  unfold Oper.wp execOp
  simp only [resolve, invoke, builtin, List.map_toArray, List.map_cons, List.map_nil, hs, ht, Sem.run_bind, Sem.run_pure, Result.andThen_ok, h1]
  refine hK2 _ _ (k _ v' w2 h2 ((But.refl _ w).alloc _ |>.grown h3 (fun k e _ => e)) ?_)
  rcases h4 with h4 | h4
  · exact .inl h4
  · exact .inr (by simpa using h4)
end
/-- How putting a code ends: the row has more; nothing else has turned. -/
def PutE (w : World) (v : Value) (L : List Ins) (e : Ending) (w' : World) : Prop :=
  ∃ v', e = .returned v' ∧ RI w' v' L ∧ But (fun k => v.ownBlock = some k) w w' ∧ (∀ k, v'.ownBlock = some k → v.ownBlock = some k ∨ w.heap.size ≤ k)
/-- Since w nothing has turned but blocks in R, and new ones. -/
def Kp (R : Nat → Prop) (w W : World) : Prop := w.heap.size ≤ W.heap.size ∧ ∀ k, k < w.heap.size → ¬ R k → W.heap[k]? = w.heap[k]?
theorem Kp.refl (R : Nat → Prop) (w : World) : Kp R w w := ⟨Nat.le_refl _, fun _ _ _ => rfl⟩
theorem Kp.trans {R : Nat → Prop} {a b c : World} (h : Kp R a b) (k : Kp R b c) : Kp R a c := ⟨Nat.le_trans h.1 k.1, fun i hi hn => (k.2 i (by have := h.1; omega) hn).trans (h.2 i hi hn)⟩
theorem Kp.below {R : Nat → Prop} {a b c : World} (h : Kp R a b) (k : Below b.heap.size b c) : Kp R a c := ⟨Nat.le_trans h.1 k.size, fun i hi hn => (k.block i (by have := h.1; omega)).trans (h.2 i hi hn)⟩
theorem Kp.but {R T : Nat → Prop} {a b c : World} (h : Kp R a b) (k : But T b c) (hT : ∀ i, T i → R i ∨ a.heap.size ≤ i) : Kp R a c := ⟨Nat.le_trans h.1 k.size, fun i hi hn => (k.block i (by have := h.1; omega) (fun t => by rcases hT i t with h | h; exact hn h; omega)).trans (h.2 i hi hn)⟩
/-- A function with a body. -/
def Clo (n : Nat) : Prop := ∀ args w, (callFunc n args).run Tryz.prog w = .ok (.enter n args) w
/-- The closure f, made ahead of w, puts the code c into rows in R, or new ones. -/
def PutOk (R : Nat → Prop) (w : World) (f : Value) (c : Cd) : Prop :=
  ∃ n caps, f = .func (.func n) #[] caps ∧ Clo n ∧ ∀ W v L m, Kp R w W → RI W v L → (∀ k, v.ownBlock = some k → R k ∨ w.heap.size ≤ k) → L.length + c.n ≤ 100000 → m ≤ 100000 →
    Calls Tryz.prog n (#[v, .int .i64 ((m : Nat) : Int)] ++ caps) W (PutE W v (L ++ c.put L.length m))
theorem PutOk.mono {R R' : Nat → Prop} {w w' : World} {f : Value} {c : Cd} (h : PutOk R w f c) (hk : Kp R w w') (hR : ∀ k, R' k → R k ∨ w.heap.size ≤ k) : PutOk R' w' f c := by
  obtain ⟨n, caps, e, hc, H⟩ := h
  refine ⟨n, caps, e, hc, fun W v L m hK hr hv hl hm => H W v L m ⟨Nat.le_trans hk.1 hK.1, fun i hi hn => ?_⟩ hr (fun k hk' => ?_) hl hm⟩
  · exact (hK.2 i (by have := hk.1; omega) (fun h => by rcases hR i h with h | h; exact hn h; omega)).trans (hk.2 i hi hn)
  · rcases hv k hk' with h | h
    · exact hR k h
    · exact .inr (Nat.le_trans hk.1 h)
theorem PutOk.below {R : Nat → Prop} {w w' : World} {f : Value} {c : Cd} (h : PutOk R w f c) (hb : Below w.heap.size w w') : PutOk R w' f c := h.mono ((Kp.refl R w).below hb) (fun _ h => .inl h)
/-- A code's value. -/
def cdA (z : Nat) (f : Value) : Array Value := #[.int .i64 (z : Int), f]
def cdV (z : Nat) (f : Value) : Value := .agg (cdA z f)
structure CdOk (b : Nat) (R : Nat → Prop) (w : World) (z : Nat) (f : Value) (c : Cd) : Prop where
  sz : SzOk z c.n
  le : z ≤ b
  put : PutOk R w f c
theorem CdOk.mono {b : Nat} {R R' : Nat → Prop} {w w' : World} {z : Nat} {f : Value} {c : Cd} (h : CdOk b R w z f c) (hk : Kp R w w') (hR : ∀ k, R' k → R k ∨ w.heap.size ≤ k) : CdOk b R' w' z f c := ⟨h.sz, h.le, h.put.mono hk hR⟩
theorem CdOk.below {b : Nat} {R : Nat → Prop} {w w' : World} {z : Nat} {f : Value} {c : Cd} (h : CdOk b R w z f c) (hb : Below w.heap.size w w') : CdOk b R w' z f c := ⟨h.sz, h.le, h.put.below hb⟩
/-- Cells that are codes. -/
def Cs (b : Nat) (R : Nat → Prop) (w : World) : List Cd → List Value → Prop
  | [], xs => xs = []
  | c :: r, xs => ∃ z f ys, xs = .int .i64 ((z : Nat) : Int) :: f :: ys ∧ CdOk b R w z f c ∧ Cs b R w r ys
theorem Cs.mono {b : Nat} {R R' : Nat → Prop} {w w' : World} (hk : Kp R w w') (hR : ∀ k, R' k → R k ∨ w.heap.size ≤ k) : ∀ {cs : List Cd} {xs : List Value}, Cs b R w cs xs → Cs b R' w' cs xs
  | [], _, h => h
  | _ :: _, _, ⟨z, f, ys, e, h1, h2⟩ => ⟨z, f, ys, e, h1.mono hk hR, Cs.mono hk hR h2⟩
theorem Cs.at {b : Nat} {R : Nat → Prop} {w : World} : ∀ {cs : List Cd} {xs : List Value}, Cs b R w cs xs → ∀ k c, cs[k]? = some c → ∃ z f, CdOk b R w z f c ∧ xs[k * 2]? = some (.int .i64 ((z : Nat) : Int)) ∧ xs[k * 2 + 1]? = some f
  | [], _, _, k, c, h => by simp at h
  | d :: r, _, ⟨z, f, ys, e, h1, h2⟩, 0, c, h => by
    simp only [List.getElem?_cons_zero, Option.some.injEq] at h
    subst h
    exact ⟨z, f, h1, by rw [e]; rfl, by rw [e]; rfl⟩
  | d :: r, _, ⟨z, f, ys, e, h1, h2⟩, k + 1, c, h => by
    obtain ⟨z', f', h3, h4, h5⟩ := Cs.at h2 k c (by simpa using h)
    refine ⟨z', f', h3, ?_, ?_⟩
    · rw [e, show (k + 1) * 2 = k * 2 + 1 + 1 by omega]; simpa using h4
    · rw [e, show (k + 1) * 2 + 1 = k * 2 + 1 + 1 + 1 by omega]; simpa using h5
theorem Cs.append {b : Nat} {R : Nat → Prop} {w : World} : ∀ {cs ds : List Cd} {xs ys : List Value}, Cs b R w cs xs → Cs b R w ds ys → Cs b R w (cs ++ ds) (xs ++ ys)
  | [], _, _, _, h, k => by cases h; exact k
  | _ :: _, _, _, _, ⟨z, f, zs, e, h1, h2⟩, k => ⟨z, f, zs ++ _, by rw [e]; rfl, h1, Cs.append h2 k⟩
theorem Cs.len {b : Nat} {R : Nat → Prop} {w : World} : ∀ {cs : List Cd} {xs : List Value}, Cs b R w cs xs → xs.length = cs.length * 2
  | [], _, h => by cases h; rfl
  | _ :: _, _, ⟨z, f, zs, e, h1, h2⟩ => by rw [e]; simp [Cs.len h2]; omega
/-- A slice of codes. -/
def CsV (b : Nat) (R : Nat → Prop) (w : World) (v : Value) (cs : List Cd) : Prop := ∃ xs, w.ownsRow 0 66 2 v cs.length xs ∧ (∀ k, v.ownBlock = some k → ¬ R k) ∧ Cs b R w cs xs
theorem CsV.mono {b : Nat} {R R' : Nat → Prop} {w w' : World} {v : Value} {cs : List Cd} (h : CsV b R w v cs) (hk : Kp R w w') (hR : ∀ k, R' k → R k ∨ w.heap.size ≤ k) : CsV b R' w' v cs := by
  obtain ⟨xs, o, hb, hc⟩ := h
  refine ⟨xs, owns_of_block o (fun k e => hk.2 k (o.lt k e).2 (hb k e)), fun k e hr => ?_, hc.mono hk hR⟩
  rcases hR k hr with h | h
  · exact hb k e h
  · have := (o.lt k e).2; omega
theorem CsV.val {b : Nat} {R : Nat → Prop} {w : World} {v : Value} {cs : List Cd} (h : CsV b R w v cs) : ∃ a c, v = .slice a cs.length c ∧ cs.length ≤ c := by
  obtain ⟨xs, o, _⟩ := h
  rcases o.2 with ⟨rfl, h0⟩ | ⟨g, cap, cur, rfl, _, _, h4, _⟩
  · exact ⟨none, 0, by rw [h0], by omega⟩
  · exact ⟨_, cap, rfl, h4⟩
/-- The code k of a slice, in whatever world comes behind. -/
theorem CsV.at {b : Nat} {R : Nat → Prop} {w : World} {v : Value} {cs : List Cd} (h : CsV b R w v cs) {k : Nat} {c : Cd} (hk : cs[k]? = some c) : ∃ g cp z f, v = .slice (some ⟨g, 0, none⟩) cs.length cp ∧ cs.length ≤ cp ∧ g < w.heap.size ∧ ¬ R g ∧ CdOk b R w z f c ∧ ∀ W, Kp R w W → W.cell? ⟨g, k * 2, none⟩ = some (.int .i64 ((z : Nat) : Int)) ∧ W.cell? ⟨g, k * 2 + 1, none⟩ = some f := by
  obtain ⟨xs, o, hb, hc⟩ := h
  have hl := (List.getElem?_eq_some_iff.1 hk).1
  obtain ⟨z, f, h1, h2, h3⟩ := hc.at k c hk
  rcases o.2 with ⟨_, h0⟩ | ⟨g, cap, cur, rfl, _, hg, h4, _⟩
  · omega
  · have hgl := (Array.getElem?_eq_some_iff.1 hg).1
    refine ⟨g, cap, z, f, rfl, h4, hgl, hb g rfl, h1, fun W hW => ?_⟩
    have o2 : W.ownsRow 0 66 2 (.slice (some ⟨g, 0, none⟩) cs.length cap) cs.length xs := owns_of_block o (fun k e => hW.2 k (o.lt k e).2 (hb k e))
    have c1 := o2.cells (g := g) rfl _ _ h2
    have c2 := o2.cells (g := g) rfl _ _ h3
    rw [add_plain, Nat.zero_add] at c1 c2
    exact ⟨c1, c2⟩
theorem sizeC : (Tryz.prog.info? 66).map (·.size) = some 2 := by kernel_rfl
theorem run_allocC (dst : Option Nat) (ty : TypeId) (pos : String) (after : Array Edge) (ev : Operand → Value) (w : World) : (execOp ev ⟨dst, .alloc 66, ty, pos, after, none⟩).run Tryz.prog w = .ok (.value (.pointer (some ⟨w.heap.size, 0, none⟩))) (w.alloc (.cells (cdA 0 .nilFunc) 66)) := by
  unfold execOp
  kernel_rfl
theorem run_boxC (dst : Option Nat) (ty : TypeId) (pos : String) (after : Array Edge) (ev : Operand → Value) (x : Operand) (z : Nat) (f : Value) (hx : ev x = cdV z f) (w : World) : (execOp ev ⟨dst, .box 66 x, ty, pos, after, none⟩).run Tryz.prog w = .ok (.value (.pointer (some ⟨w.heap.size, 0, none⟩))) (w.alloc (.cells (cdA z f) 66)) := by
  unfold execOp
  simp only [hx]
  kernel_rfl
theorem loadC {w : World} {g : Nat} {z : Nat} {f : Value} (h : w.heap[g]? = some (.cells (cdA z f) 66 (0, 0))) : (loadVar 66 ⟨g, 0, none⟩).run Tryz.prog w = .ok (cdV z f) w :=
  run_loadVar_row w g 66 66 _ (0, 0) _ h Tryz.underlying66 rfl sizeC
theorem loadCc {w : World} {b o : Nat} {z : Nat} {f : Value} (h0 : w.cell? ⟨b, o, none⟩ = some (.int .i64 ((z : Nat) : Int))) (h1 : w.cell? ⟨b, o + 1, none⟩ = some f) : (loadVar 66 ⟨b, o, none⟩).run Tryz.prog w = .ok (cdV z f) w := by
  have hz : ∀ w, (sizeOf 66).run Tryz.prog w = .ok 2 w := fun w => by kernel_rfl
  have ha : ∀ w, (isAgg 66).run Tryz.prog w = .ok true w := fun w => by kernel_rfl
  simp [loadVar, hz, ha, loadCells, go_sem, h0, h1, add_plain]
  rfl
theorem PutOk.one {R : Nat → Prop} {w : World} {f : Value} {c : Cd} (h : PutOk R w f c) : f.oneCell' = true := by obtain ⟨n, caps, rfl, _⟩ := h; rfl
theorem ld52 {w : World} {ad : Addr} {v : Value} (h : w.cell? ad = some v) : (loadVar 64 ad).run Tryz.prog w = .ok v w := by
  have ha : ∀ w, (isAgg 64).run Tryz.prog w = .ok false w := fun w => by kernel_rfl
  simp [loadVar, ha, go_sem, h]
theorem ld99 {w : World} {ad : Addr} {v : Value} (h : w.cell? ad = some v) : (loadVar 149 ad).run Tryz.prog w = .ok v w := by
  have ha : ∀ w, (isAgg 149).run Tryz.prog w = .ok false w := fun w => by kernel_rfl
  simp [loadVar, ha, go_sem, h]
theorem ld113 {w : World} {ad : Addr} {v : Value} (h : w.cell? ad = some v) : (loadVar 181 ad).run Tryz.prog w = .ok v w := by
  have ha : ∀ w, (isAgg 181).run Tryz.prog w = .ok false w := fun w => by kernel_rfl
  simp [loadVar, ha, go_sem, h]
section
variable {S : Nat → Prop} {w0 w w' : World} {L : List Ent} {ops : Array Oper} {rest : List Oper} {a : Act} {Q : Exit → Act → World → Prop} {dst : Option Nat} {x y : Operand} {ty : TypeId} {pos : String} {after : Array Edge}
theorem wl_boxI (H : St S w0 w L) {i : Ins} (hx : a.eval x = insV i) (h : ∀ g w', St S w0 w' ((true, g, 102, insA i) :: L) → w0.heap.size ≤ g → w.heap.size ≤ g → wpList Tryz.prog ops Q rest (a.put dst (.pointer (some ⟨g, 0, none⟩))) w') : wpList Tryz.prog ops Q (⟨dst, .box 102 x, ty, pos, after, none⟩ :: rest) a w := by
  refine wpList_plain rfl fun K hK => ?_
  unfold Oper.wp
  rw [run_boxI _ _ _ _ _ _ i hx, Oper.upon_value]
  exact hK _ _ (h _ _ (H.alloc 102 _) H.but.size (Nat.le_refl _))
theorem wl_boxC (H : St S w0 w L) {z : Nat} {f : Value} (hx : a.eval x = cdV z f) (h : ∀ g w', St S w0 w' ((true, g, 66, cdA z f) :: L) → w0.heap.size ≤ g → w.heap.size ≤ g → wpList Tryz.prog ops Q rest (a.put dst (.pointer (some ⟨g, 0, none⟩))) w') : wpList Tryz.prog ops Q (⟨dst, .box 66 x, ty, pos, after, none⟩ :: rest) a w := by
  refine wpList_plain rfl fun K hK => ?_
  unfold Oper.wp
  rw [run_boxC _ _ _ _ _ _ z f hx, Oper.upon_value]
  exact hK _ _ (h _ _ (H.alloc 66 _) H.but.size (Nat.le_refl _))
theorem wl_allocC (H : St S w0 w L) (h : ∀ g w', St S w0 w' ((true, g, 66, cdA 0 .nilFunc) :: L) → w0.heap.size ≤ g → w.heap.size ≤ g → wpList Tryz.prog ops Q rest (a.put dst (.pointer (some ⟨g, 0, none⟩))) w') : wpList Tryz.prog ops Q (⟨dst, .alloc 66, ty, pos, after, none⟩ :: rest) a w :=
  wl_alloc 66 _ H (fun w => run_allocC _ _ _ _ _ w) h
theorem wl_storeC (i : Nat) (H : St S w0 w L) {g : Nat} {z z' : Nat} {f f' : Value} (h : L[i]? = some (true, g, 66, cdA z f)) (hx : a.eval x = .pointer (some ⟨g, 0, none⟩)) (hy : a.eval y = cdV z' f') (h1 : f'.oneCell' = true)
    (k : ∀ w', St S w0 w' (L.set i (true, g, 66, cdA z' f')) → wpList Tryz.prog ops Q rest a w') : wpList Tryz.prog ops Q (⟨none, .store 66 x y, ty, pos, after, none⟩ :: rest) a w :=
  wl_store i 66 H h hx hy sizeC rfl (by have h2 : ∀ k n, (Value.int k n).oneCell' = true := fun _ _ => rfl; simp [cdA, h1, h2]) k
theorem wl_loadC (i : Nat) (H : St S w0 w L) {b : Bool} {g : Nat} {z : Nat} {f : Value} (h : L[i]? = some (b, g, 66, cdA z f)) (hx : a.eval x = .pointer (some ⟨g, 0, none⟩)) (k : wpList Tryz.prog ops Q rest (a.put dst (cdV z f)) w) : wpList Tryz.prog ops Q (⟨dst, .load 66 x, ty, pos, after, none⟩ :: rest) a w := wl_loadA 66 hx (loadC (H.get i h)) k
theorem wl_ld52 (i j : Nat) (H : St S w0 w L) {b : Bool} {g : Nat} {t : TypeId} {xs : Array Value} {v : Value} (h : L[i]? = some (b, g, t, xs)) (hv : xs[j]? = some v) (hx : a.eval x = .pointer (some ⟨g, j, none⟩)) (k : wpList Tryz.prog ops Q rest (a.put dst v) w) : wpList Tryz.prog ops Q (⟨dst, .load 64 x, ty, pos, after, none⟩ :: rest) a w := wl_loadA 64 hx (ld52 (H.cell i j h hv)) k
theorem wl_ld99 (i j : Nat) (H : St S w0 w L) {b : Bool} {g : Nat} {t : TypeId} {xs : Array Value} {v : Value} (h : L[i]? = some (b, g, t, xs)) (hv : xs[j]? = some v) (hx : a.eval x = .pointer (some ⟨g, j, none⟩)) (k : wpList Tryz.prog ops Q rest (a.put dst v) w) : wpList Tryz.prog ops Q (⟨dst, .load 149 x, ty, pos, after, none⟩ :: rest) a w := wl_loadA 149 hx (ld99 (H.cell i j h hv)) k
theorem wl_ld113 (i j : Nat) (H : St S w0 w L) {b : Bool} {g : Nat} {t : TypeId} {xs : Array Value} {v : Value} (h : L[i]? = some (b, g, t, xs)) (hv : xs[j]? = some v) (hx : a.eval x = .pointer (some ⟨g, j, none⟩)) (k : wpList Tryz.prog ops Q rest (a.put dst v) w) : wpList Tryz.prog ops Q (⟨dst, .load 181 x, ty, pos, after, none⟩ :: rest) a w := wl_loadA 181 hx (ld113 (H.cell i j h hv)) k
theorem at_clo {n : Nat} {ps : Array Operand} {ts : Array TypeId} (h : wpList Tryz.prog ops Q (⟨dst, .call { callee := .value (.tmp n), args := ps, argTypes := ts }, ty, pos, after, none⟩ :: rest) a w) : wpList Tryz.prog ops Q (⟨dst, .call { callee := .value (.tmp n), args := ps, argTypes := ts }, ty, pos, after, none⟩ :: rest) a w := h
/-- A closure is called. -/
theorem wl_clo {ps : Array Operand} {ts : Array TypeId} {k : Nat} {caps xs : Array Value} (hx : a.eval x = .func (.func k) #[] caps) (hp : ps.map a.eval = xs) (hc : Clo k) (h : Calls Tryz.prog k (xs ++ caps) w fun e w' => ∃ u, e = .returned u ∧ wpList Tryz.prog ops Q rest (a.put dst u) w') : wpList Tryz.prog ops Q (⟨dst, .call { callee := .value x, args := ps, argTypes := ts }, ty, pos, after, none⟩ :: rest) a w := by
  refine wpList_plain rfl fun K hK => ?_
  unfold Oper.wp
  have e : (execOp a.eval ⟨dst, .call { callee := .value x, args := ps, argTypes := ts }, ty, pos, after, none⟩).run Tryz.prog w = .ok (.enter k (xs ++ caps)) w := by
    simp [execOp, resolve, invoke, Deferred.ofValue, hx, hp, hc (xs ++ caps) w]
  rw [e]
  refine h.mono ?_
  rintro e w' ⟨u, rfl, hw⟩
  exact hK _ _ hw
theorem wl_clo2 {p q : Operand} {ts : Array TypeId} {k : Nat} {caps : Array Value} {u1 u2 : Value} (hx : a.eval x = .func (.func k) #[] caps) (hp : a.eval p = u1) (hq : a.eval q = u2) (hc : Clo k) (h : Calls Tryz.prog k (#[u1, u2] ++ caps) w fun e w' => ∃ u, e = .returned u ∧ wpList Tryz.prog ops Q rest (a.put dst u) w') : wpList Tryz.prog ops Q (⟨dst, .call { callee := .value x, args := #[p, q], argTypes := ts }, ty, pos, after, none⟩ :: rest) a w :=
  wl_clo hx (by simp [hp, hq]) hc h
theorem wl_clo1 {p : Operand} {ts : Array TypeId} {k : Nat} {caps : Array Value} {u1 : Value} (hx : a.eval x = .func (.func k) #[] caps) (hp : a.eval p = u1) (hc : Clo k) (h : Calls Tryz.prog k (#[u1] ++ caps) w fun e w' => ∃ u, e = .returned u ∧ wpList Tryz.prog ops Q rest (a.put dst u) w') : wpList Tryz.prog ops Q (⟨dst, .call { callee := .value x, args := #[p], argTypes := ts }, ty, pos, after, none⟩ :: rest) a w :=
  wl_clo hx (by simp [hp]) hc h
theorem St.callB (H : St S w0 w L) {T : Nat → Prop} (hb : But T w w') (hT : ∀ i, i < w0.heap.size → T i → S i) (hn : ∀ x ∈ L, ¬ T x.2.1) : St S w0 w' L := H.callS hb hT rfl (fun x hx => .inl ⟨hx, hn x hx⟩)
end
end Go.Proofs.YtkfdikpnnkbgaaaGreatDoor
