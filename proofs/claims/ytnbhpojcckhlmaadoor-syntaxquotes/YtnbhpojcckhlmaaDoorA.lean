/-
  What a call may turn ('But'); the boxes of a call ('St'), and laws by which a walk makes, writes and reads them.
-/
import Derived.Test.YtnbhpojcckhlmaaDoorChecked
import Derived.WalkKit
import Derived.WalkLawsBesides
import Derived.Laws.BitsAllLaws
import Derived.Laws.Tables
import Derived.Laws.Rows
import Derived.Laws.ResultCell
import Derived.Laws.OwnMore
import Derived.BigQuiet
namespace Go.Proofs.YtnbhpojcckhlmaaDoor
open Go.RowKit
set_option linter.unusedVariables false
set_option linter.unusedSimpArgs false

theorem hide {p : Prop} (h : p) : Hid p := h
theorem w64 (n : Int) (h : -9223372036854775808 ≤ n ∧ n ≤ 9223372036854775807) : wrap64 n = n := by unfold wrap64; omega
theorem add_plain (b off j : Nat) : (⟨b, off, none⟩ : Addr).add j = ⟨b, off + j, none⟩ := by unfold Addr.add; split <;> simp_all

/-- Nothing has turned but blocks in S, and new ones. -/
structure But (S : Nat → Prop) (w w' : World) : Prop where
  os : w'.os = w.os
  tape : w'.tape = w.tape
  output : w'.output = w.output
  size : w.heap.size ≤ w'.heap.size
  block : ∀ k, k < w.heap.size → ¬ S k → w'.heap[k]? = w.heap[k]?

theorem But.refl (S : Nat → Prop) (w : World) : But S w w := ⟨rfl, rfl, rfl, Nat.le_refl _, fun _ _ _ => rfl⟩
theorem But.trans {S T : Nat → Prop} {a b c : World} (h : But S a b) (k : But T b c) (hT : ∀ i, i < a.heap.size → T i → S i) : But S a c :=
  ⟨k.os.trans h.os, k.tape.trans h.tape, k.output.trans h.output, Nat.le_trans h.size k.size, fun i hi hn => (k.block i (Nat.lt_of_lt_of_le hi h.size) (fun t => hn (hT i hi t))).trans (h.block i hi hn)⟩
theorem But.mono {S T : Nat → Prop} {w w' : World} (h : But S w w') (hT : ∀ k, S k → T k) : But T w w' := ⟨h.os, h.tape, h.output, h.size, fun k hk hn => h.block k hk (fun s => hn (hT k s))⟩
theorem But.drewN {S : Nat → Prop} {a w : World} (h : But S a w) (n : Nat) : But S a (w.drewN n) := ⟨h.os, h.tape, h.output, h.size, h.block⟩
theorem But.drew {S : Nat → Prop} {a w : World} (h : But S a w) : But S a w.drew := ⟨h.os, h.tape, h.output, h.size, h.block⟩
theorem But.alloc {S : Nat → Prop} {a w : World} (h : But S a w) (o : Obj) : But S a (w.alloc o) :=
  h.trans (T := fun _ => False) ⟨rfl, rfl, rfl, by simp, fun k hk _ => Below.heap_alloc w o k hk⟩ (fun _ _ h => h.elim)
theorem But.setRow {S : Nat → Prop} {a w : World} (h : But S a w) {g : Nat} (hp : g < a.heap.size → S g) (cs : Array Value) : But S a (w.setRow g cs) :=
  h.trans (T := fun k => k = g) ⟨rfl, rfl, rfl, by simp, fun k hk hn => setRow_other w g k cs hn⟩ (fun i hi e => by subst e; exact hp hi)
theorem But.grown {S : Nat → Prop} {a w w' : World} {row : Option Nat} (h : But S a w) (hg : w.grownBy w' row) (hr : ∀ k, row = some k → k < a.heap.size → S k) : But S a w' :=
  h.trans (T := fun k => row = some k) ⟨hg.os, hg.tape, hg.output, hg.size, fun k hk hn => hg.block k hk (fun e => hn e.symm)⟩ (fun i hi e => hr i e hi)
theorem But.below {S : Nat → Prop} {B : Nat} {w w' : World} (h : But S w w') (hB : B ≤ w.heap.size) (hS : ∀ k, S k → B ≤ k) : Below B w w' :=
  ⟨h.os, h.tape, h.output, h.size, fun k hk => h.block k (by omega) (fun s => by have := hS k s; omega)⟩
theorem but_of_below {B : Nat} {w w' : World} (h : Below B w w') (S : Nat → Prop) (hS : ∀ k, k < w.heap.size → B ≤ k → S k) : But S w w' :=
  ⟨h.os, h.tape, h.output, h.size, fun k hk hn => h.block k (by rcases Nat.lt_or_ge k B with h | h; exact h; exact (hn (hS k hk h)).elim)⟩

/-- A box: whether it may be written, its block, its type, its cells. -/
abbrev Ent := Bool × Nat × TypeId × Array Value
/-- Since w0 nothing has turned but blocks in S; the boxes L lie in w, apart from each other. -/
structure St (S : Nat → Prop) (w0 w : World) (L : List Ent) : Prop where
  but : But S w0 w
  all : ∀ x ∈ L, w.heap[x.2.1]? = some (.cells x.2.2.2 x.2.2.1 (0, 0))
  ok : ∀ x ∈ L, x.1 = true → x.2.1 < w0.heap.size → S x.2.1
  nd : (L.map (·.2.1)).Nodup
abbrev Nope : Nat → Prop := fun _ => False
section
variable {S : Nat → Prop} {w0 w w' : World} {L : List Ent}
theorem St.start (S : Nat → Prop) (w : World) : St S w w [] := ⟨But.refl _ _, fun x hx => (List.not_mem_nil hx).elim, fun x hx => (List.not_mem_nil hx).elim, List.nodup_nil⟩
theorem St.lt (H : St S w0 w L) {x : Ent} (hx : x ∈ L) : x.2.1 < w.heap.size := (Array.getElem?_eq_some_iff.1 (H.all x hx)).1
theorem St.get (H : St S w0 w L) (i : Nat) {b : Bool} {g : Nat} {t : TypeId} {xs : Array Value} (h : L[i]? = some (b, g, t, xs)) : w.heap[g]? = some (.cells xs t (0, 0)) := H.all _ (List.mem_of_getElem? h)
theorem St.lti (H : St S w0 w L) (i : Nat) {b : Bool} {g : Nat} {t : TypeId} {xs : Array Value} (h : L[i]? = some (b, g, t, xs)) : g < w.heap.size := H.lt (List.mem_of_getElem? h)
theorem St.fz (H : St S w0 w L) (i j : Nat) {b : Bool} {g : Nat} {t : TypeId} {xs : Array Value} (h : L[i]? = some (b, g, t, xs)) : w.frozen? ⟨g, j, none⟩ = false := frozen_of_row w g j _ t (H.get i h)
theorem St.cell (H : St S w0 w L) (i j : Nat) {b : Bool} {g : Nat} {t : TypeId} {xs : Array Value} (h : L[i]? = some (b, g, t, xs)) {v : Value} (hv : xs[j]? = some v) : w.cell? ⟨g, j, none⟩ = some v := by
  rw [cell_of_row w g j _ t (0, 0) (H.get i h)]; exact hv
theorem St.alloc (H : St S w0 w L) (t : TypeId) (xs : Array Value) : St S w0 (w.alloc (.cells xs t)) ((true, w.heap.size, t, xs) :: L) := by
  refine ⟨H.but.alloc _, fun x hx => ?_, fun x hx => ?_, ?_⟩
  · rcases List.mem_cons.1 hx with rfl | hx
    · exact heap_alloc_new w _
    · rw [Below.heap_alloc _ _ _ (H.lt hx)]; exact H.all x hx
  · rcases List.mem_cons.1 hx with rfl | hx
    · intro _ h; have := H.but.size; simp only at h; omega
    · exact H.ok x hx
  · rw [List.map_cons, List.nodup_cons]
    refine ⟨fun h => ?_, H.nd⟩
    obtain ⟨x, hx, e⟩ := List.mem_map.1 h
    have := H.lt hx
    simp only at e
    omega
theorem St.call (H : St S w0 w L) {B : Nat} (hb : Below B w w') (hB : w.heap.size ≤ B) : St S w0 w' L :=
  ⟨H.but.trans (T := fun _ => False) ⟨hb.os, hb.tape, hb.output, hb.size, fun k hk _ => hb.block k (by omega)⟩ (fun _ _ h => h.elim), fun x hx => by rw [hb.block _ (by have := H.lt hx; omega)]; exact H.all x hx, H.ok, H.nd⟩
theorem St.drew (H : St S w0 w L) : St S w0 w.drew L := ⟨H.but.drew, H.all, H.ok, H.nd⟩
theorem St.drewN (H : St S w0 w L) (n : Nat) : St S w0 (w.drewN n) L := ⟨H.but.drewN n, H.all, H.ok, H.nd⟩
theorem St.sub (H : St S w0 w L) {M : List Ent} (h : M.Sublist L) : St S w0 w M :=
  ⟨H.but, fun x hx => H.all x (h.subset hx), fun x hx => H.ok x (h.subset hx), (h.map _).nodup H.nd⟩
theorem St.tail {x : Ent} (H : St S w0 w (x :: L)) : St S w0 w L := H.sub (List.sublist_cons_self _ _)
theorem St.below (H : St Nope w0 w L) : Below w0.heap.size w0 w := H.but.below (Nat.le_refl _) (fun _ h => h.elim)
theorem nodup_get {α : Type} {l : List α} (h : l.Nodup) {i j : Nat} {x : α} (hi : l[i]? = some x) (hj : l[j]? = some x) : i = j := by
  exact (List.getElem?_inj (List.getElem?_eq_some_iff.1 hi).1 h).1 (hi.trans hj.symm)
theorem St.setRow (H : St S w0 w L) (i : Nat) {g : Nat} {t : TypeId} {xs : Array Value} (h : L[i]? = some (true, g, t, xs)) (ys : Array Value) : St S w0 (w.setRow g ys) (L.set i (true, g, t, ys)) := by
  have hm : (L.set i (true, g, t, ys)).map (·.2.1) = L.map (·.2.1) := by
    apply List.ext_getElem?
    intro j
    simp only [List.getElem?_map, List.getElem?_set]
    split
    · rename_i e; subst e; split
      · rw [h]; rfl
      · rename_i hl; rw [List.getElem?_eq_none (by omega)]
    · rfl
  have hne : ∀ x ∈ L.set i (true, g, t, ys), x = (true, g, t, ys) ∨ (x ∈ L ∧ x.2.1 ≠ g) := fun x hx => by
    obtain ⟨j, hj⟩ := List.mem_iff_getElem?.1 hx
    rw [List.getElem?_set] at hj
    split at hj
    · split at hj
      · exact .inl (Option.some.inj hj).symm
      · cases hj
    · rename_i hij
      refine .inr ⟨List.mem_of_getElem? hj, fun e => hij ?_⟩
      refine nodup_get H.nd (x := g) ?_ ?_
      · rw [List.getElem?_map, h]; rfl
      · rw [List.getElem?_map, hj, ← e]; rfl
  refine ⟨H.but.setRow (H.ok _ (List.mem_of_getElem? h) rfl) _, fun x hx => ?_, fun x hx => ?_, by rw [hm]; exact H.nd⟩
  · rcases hne x hx with rfl | ⟨hx, hn⟩
    · exact setRow_heap w g _ ys t (0, 0) (H.get i h)
    · rw [setRow_other w g _ ys hn]; exact H.all x hx
  · rcases hne x hx with rfl | ⟨hx, hn⟩
    · exact H.ok (true, g, t, xs) (List.mem_of_getElem? h)
    · exact H.ok x hx
/-- Behind a call that turns blocks in T: the boxes that are not in T are as they were. -/
theorem St.callS (H : St S w0 w L) {T : Nat → Prop} (hb : But T w w') (hT : ∀ i, i < w0.heap.size → T i → S i) {M : List Ent} (hM : M.map (fun x => (x.1, x.2.1)) = L.map (fun x => (x.1, x.2.1))) (hn : ∀ x ∈ M, x ∈ L ∧ ¬ T x.2.1 ∨ w'.heap[x.2.1]? = some (.cells x.2.2.2 x.2.2.1 (0, 0))) : St S w0 w' M := by
  have hm : M.map (·.2.1) = L.map (·.2.1) := by
    have := congrArg (List.map Prod.snd) hM
    simpa [List.map_map, Function.comp_def] using this
  refine ⟨H.but.trans hb hT, fun x hx => ?_, fun x hx hr hl => ?_, by rw [hm]; exact H.nd⟩
  · rcases hn x hx with ⟨h1, h2⟩ | h1
    · rw [hb.block _ (H.lt h1) h2]; exact H.all x h1
    · exact h1
  · have : (x.1, x.2.1) ∈ L.map (fun x => (x.1, x.2.1)) := by rw [← hM]; exact List.mem_map.2 ⟨x, hx, rfl⟩
    obtain ⟨y, hy, e⟩ := List.mem_map.1 this
    simp only [Prod.mk.injEq] at e
    rw [← e.2]
    exact H.ok y hy (by rw [e.1]; exact hr) (by rw [e.2]; exact hl)
end
section
variable {S : Nat → Prop} {w0 w : World} {L : List Ent} {ops : Array Oper} {rest : List Oper} {a : Act} {Q : Exit → Act → World → Prop} {dst : Option Nat} {x y : Operand} {ty t : TypeId} {pos : String} {after : Array Edge}
theorem wl_alloc (t : TypeId) (zs : Array Value) (H : St S w0 w L) (hz : ∀ w, (execOp a.eval ⟨dst, .alloc t, ty, pos, after, none⟩).run Tryd.prog w = .ok (.value (.pointer (some ⟨w.heap.size, 0, none⟩))) (w.alloc (.cells zs t)))
    (h : ∀ g w', St S w0 w' ((true, g, t, zs) :: L) → w0.heap.size ≤ g → w.heap.size ≤ g → wpList Tryd.prog ops Q rest (a.put dst (.pointer (some ⟨g, 0, none⟩))) w') : wpList Tryd.prog ops Q (⟨dst, .alloc t, ty, pos, after, none⟩ :: rest) a w := by
  refine wpList_plain rfl fun K hK => ?_
  unfold Oper.wp
  rw [hz, Oper.upon_value]
  exact hK _ _ (h _ _ (H.alloc t zs) H.but.size (Nat.le_refl _))
theorem wl_store (i : Nat) (t : TypeId) (H : St S w0 w L) {g : Nat} {ys xs : Array Value} (h : L[i]? = some (true, g, t, xs)) (hx : a.eval x = .pointer (some ⟨g, 0, none⟩)) (hy : a.eval y = .agg ys) (hi : (Tryd.prog.info? t).map (·.size) = some ys.size) (hs : xs.size = ys.size) (h1 : ys.all (·.oneCell') = true)
    (k : ∀ w', St S w0 w' (L.set i (true, g, t, ys)) → wpList Tryd.prog ops Q rest a w') : wpList Tryd.prog ops Q (⟨none, .store t x y, ty, pos, after, none⟩ :: rest) a w :=
  wpList_store_row rfl t x y rfl g _ hx hy t _ (H.get i h) hi hs h1 (k _ (H.setRow i h ys))
/-- A single cell is stored. -/
theorem wl_store1 (i j : Nat) (ty' : TypeId) (H : St S w0 w L) {t : TypeId} {g : Nat} {v : Value} {xs : Array Value} (h : L[i]? = some (true, g, t, xs)) (hx : a.eval x = .pointer (some ⟨g, j, none⟩)) (hy : a.eval y = v) (hj : j < xs.size) (hi : ∀ w, (sizeOf ty').run Tryd.prog w = .ok 1 w) (h1 : v.oneCell' = true)
    (k : ∀ w', St S w0 w' (L.set i (true, g, t, xs.setIfInBounds j v)) → wpList Tryd.prog ops Q rest a w') : wpList Tryd.prog ops Q (⟨none, .store ty' x y, ty, pos, after, none⟩ :: rest) a w := by
  refine wpList_plain rfl fun K hK => ?_
  have h2 := H.setRow i h (xs.setIfInBounds j v)
  rw [← setCell_eq_setRow w g j xs t (0, 0) v (H.get i h)] at h2
  have hc : w.cell? ⟨g, j, none⟩ = some xs[j] := H.cell i j h (Array.getElem?_eq_getElem hj)
  have hf := H.fz i j h
  have hcs : v.cells = #[v] := by cases v <;> first | rfl | cases h1
  have hst : (storeVar ty' ⟨g, j, none⟩ v).run Tryd.prog w = .ok () (w.setCell ⟨g, j, none⟩ v) := by
    have e : (storeCells ⟨g, j, none⟩ [v]).run Tryd.prog w = .ok () (w.setCell ⟨g, j, none⟩ v) := by simp [storeCells, go_sem, run_store Tryd.prog w _ v _ h1, stored, hc, hf]
    unfold storeVar
    simp only [Sem.run_bind, hi, Result.andThen_ok, hcs]
    simpa using e
  unfold Oper.wp execOp
  simp only [hx, hy, Instr.storeAt, Instr.sureAddr, Sem.run_bind, Sem.run_pure, Result.andThen_ok, hst]
  exact hK _ _ (k _ h2)
theorem at_store (t : TypeId) (h : wpList Tryd.prog ops Q (⟨dst, .store t x y, ty, pos, after, none⟩ :: rest) a w) : wpList Tryd.prog ops Q (⟨dst, .store t x y, ty, pos, after, none⟩ :: rest) a w := h
theorem at_alloc (t : TypeId) (h : wpList Tryd.prog ops Q (⟨dst, .alloc t, ty, pos, after, none⟩ :: rest) a w) : wpList Tryd.prog ops Q (⟨dst, .alloc t, ty, pos, after, none⟩ :: rest) a w := h
theorem at_box (t : TypeId) (h : wpList Tryd.prog ops Q (⟨dst, .box t x, ty, pos, after, none⟩ :: rest) a w) : wpList Tryd.prog ops Q (⟨dst, .box t x, ty, pos, after, none⟩ :: rest) a w := h
theorem at_load (t : TypeId) (h : wpList Tryd.prog ops Q (⟨dst, .load t x, ty, pos, after, none⟩ :: rest) a w) : wpList Tryd.prog ops Q (⟨dst, .load t x, ty, pos, after, none⟩ :: rest) a w := h
end
/-- What a function answers by one box and two slots. -/
theorem results_cell2 {fn : Func} {p u v : Tmp} {ty : TypeId} (h : fn.results = #[.cell p ty, .tmp u, .tmp v]) (tmps : Array Value) (w : World) (g : Nat) (x : Value)
    (hp : tmps.getD p undef = .pointer (some ⟨g, 0, none⟩)) (hl : (loadVar ty ⟨g, 0, none⟩).run Tryd.prog w = .ok x w) :
    (results fn tmps).run Tryd.prog w = .ok (.tuple #[x, tmps.getD u undef, tmps.getD v undef]) w := by
  have hp' : tmps[p]?.getD undef = .pointer (some ⟨g, 0, none⟩) := by simpa using hp
  simp [results, h, hp', asAddr, hl]
theorem results_cell1 {fn : Func} {p u : Tmp} {ty : TypeId} (h : fn.results = #[.cell p ty, .tmp u]) (tmps : Array Value) (w : World) (g : Nat) (x : Value)
    (hp : tmps.getD p undef = .pointer (some ⟨g, 0, none⟩)) (hl : (loadVar ty ⟨g, 0, none⟩).run Tryd.prog w = .ok x w) :
    (results fn tmps).run Tryd.prog w = .ok (.tuple #[x, tmps.getD u undef]) w := by
  have hp' : tmps[p]?.getD undef = .pointer (some ⟨g, 0, none⟩) := by simpa using hp
  simp [results, h, hp', asAddr, hl]
theorem results_cell0 {fn : Func} {p : Tmp} {ty : TypeId} (h : fn.results = #[.cell p ty]) (tmps : Array Value) (w : World) (g : Nat) (x : Value)
    (hp : tmps.getD p undef = .pointer (some ⟨g, 0, none⟩)) (hl : (loadVar ty ⟨g, 0, none⟩).run Tryd.prog w = .ok x w) :
    (results fn tmps).run Tryd.prog w = .ok x w := by
  have hp' : tmps[p]?.getD undef = .pointer (some ⟨g, 0, none⟩) := by simpa using hp
  simp [results, h, hp', asAddr, hl]

/-- A set of bytes: its four numbers. -/
structure S4 where
  (a b c d : Int)
def setA (s : S4) : Array Value := #[.int .u64 s.a, .int .u64 s.b, .int .u64 s.c, .int .u64 s.d]
def setV (s : S4) : Value := .agg (setA s)
def noSet : S4 := ⟨0, 0, 0, 0⟩
theorem size25 : (Tryd.prog.info? 25).map (·.size) = some 4 := by kernel_rfl
theorem size25' (s : S4) : (Tryd.prog.info? 25).map (·.size) = some (setA s).size := size25
theorem one25 (s : S4) : (setA s).all (·.oneCell') = true := by simp [setA, Value.oneCell']
theorem run_alloc25 (dst : Option Nat) (ty : TypeId) (pos : String) (after : Array Edge) (ev : Operand → Value) (w : World) : (execOp ev ⟨dst, .alloc 25, ty, pos, after, none⟩).run Tryd.prog w = .ok (.value (.pointer (some ⟨w.heap.size, 0, none⟩))) (w.alloc (.cells (setA noSet) 25)) := by
  unfold execOp
  kernel_rfl
theorem run_box25 (dst : Option Nat) (ty : TypeId) (pos : String) (after : Array Edge) (ev : Operand → Value) (x : Operand) (s : S4) (hx : ev x = setV s) (w : World) : (execOp ev ⟨dst, .box 25 x, ty, pos, after, none⟩).run Tryd.prog w = .ok (.value (.pointer (some ⟨w.heap.size, 0, none⟩))) (w.alloc (.cells (setA s) 25)) := by
  unfold execOp
  simp only [hx]
  kernel_rfl
/-- A pattern's one: its kind, set, least and greatest count, and its list's value. -/
def reA (k : Int) (s : S4) (l : Value) (mn mx : Int) : Array Value := #[.int .i64 k, .int .u64 s.a, .int .u64 s.b, .int .u64 s.c, .int .u64 s.d, l, .int .i64 mn, .int .i64 mx]
def reV (k : Int) (s : S4) (l : Value) (mn mx : Int) : Value := .agg (reA k s l mn mx)
theorem size28 : (Tryd.prog.info? 28).map (·.size) = some 8 := by kernel_rfl
theorem run_alloc28 (dst : Option Nat) (ty : TypeId) (pos : String) (after : Array Edge) (ev : Operand → Value) (w : World) : (execOp ev ⟨dst, .alloc 28, ty, pos, after, none⟩).run Tryd.prog w = .ok (.value (.pointer (some ⟨w.heap.size, 0, none⟩))) (w.alloc (.cells (reA 0 noSet (.slice none 0 0) 0 0) 28)) := by
  unfold execOp
  kernel_rfl
theorem run_box28 (dst : Option Nat) (ty : TypeId) (pos : String) (after : Array Edge) (ev : Operand → Value) (x : Operand) (k : Int) (s : S4) (l : Value) (mn mx : Int) (hx : ev x = reV k s l mn mx) (w : World) : (execOp ev ⟨dst, .box 28 x, ty, pos, after, none⟩).run Tryd.prog w = .ok (.value (.pointer (some ⟨w.heap.size, 0, none⟩))) (w.alloc (.cells (reA k s l mn mx) 28)) := by
  unfold execOp
  simp only [hx]
  kernel_rfl
theorem load25 {w : World} {g : Nat} {s : S4} (h : w.heap[g]? = some (.cells (setA s) 25 (0, 0))) : (loadVar 25 ⟨g, 0, none⟩).run Tryd.prog w = .ok (setV s) w :=
  run_loadVar_row w g 25 25 _ (0, 0) _ h Tryd.underlying25 rfl (size25' s)
theorem load28 {w : World} {g : Nat} {k : Int} {s : S4} {l : Value} {mn mx : Int} (h : w.heap[g]? = some (.cells (reA k s l mn mx) 28 (0, 0))) : (loadVar 28 ⟨g, 0, none⟩).run Tryd.prog w = .ok (reV k s l mn mx) w :=
  run_loadVar_row w g 28 28 _ (0, 0) _ h Tryd.underlying28 rfl size28
section
variable {S : Nat → Prop} {w0 w : World} {L : List Ent} {ops : Array Oper} {rest : List Oper} {a : Act} {Q : Exit → Act → World → Prop} {dst : Option Nat} {x y : Operand} {ty : TypeId} {pos : String} {after : Array Edge}
theorem wl_loadV (t : TypeId) {g : Nat} {v : Value} (hx : a.eval x = .pointer (some ⟨g, 0, none⟩)) (hl : (loadVar t ⟨g, 0, none⟩).run Tryd.prog w = .ok v w)
    (k : wpList Tryd.prog ops Q rest (a.put dst v) w) : wpList Tryd.prog ops Q (⟨dst, .load t x, ty, pos, after, none⟩ :: rest) a w := by
  refine wpList_plain rfl fun K hK => ?_
  unfold Oper.wp execOp
  simp only [hx, Instr.loadAt, Instr.sureAddr, Sem.run_bind, Sem.run_pure, Result.andThen_ok, hl]
  exact hK _ _ k
theorem wl_load25 (i : Nat) (H : St S w0 w L) {b : Bool} {g : Nat} {s : S4} (h : L[i]? = some (b, g, 25, setA s)) (hx : a.eval x = .pointer (some ⟨g, 0, none⟩))
    (k : wpList Tryd.prog ops Q rest (a.put dst (setV s)) w) : wpList Tryd.prog ops Q (⟨dst, .load 25 x, ty, pos, after, none⟩ :: rest) a w := wl_loadV 25 hx (load25 (H.get i h)) k
theorem wl_load28 (i : Nat) (H : St S w0 w L) {b : Bool} {g : Nat} {n : Int} {s : S4} {l : Value} {mn mx : Int} (h : L[i]? = some (b, g, 28, reA n s l mn mx)) (hx : a.eval x = .pointer (some ⟨g, 0, none⟩))
    (k : wpList Tryd.prog ops Q rest (a.put dst (reV n s l mn mx)) w) : wpList Tryd.prog ops Q (⟨dst, .load 28 x, ty, pos, after, none⟩ :: rest) a w := wl_loadV 28 hx (load28 (H.get i h)) k
theorem wl_alloc25 (H : St S w0 w L) (h : ∀ g w', St S w0 w' ((true, g, 25, setA noSet) :: L) → w0.heap.size ≤ g → w.heap.size ≤ g → wpList Tryd.prog ops Q rest (a.put dst (.pointer (some ⟨g, 0, none⟩))) w') : wpList Tryd.prog ops Q (⟨dst, .alloc 25, ty, pos, after, none⟩ :: rest) a w :=
  wl_alloc 25 _ H (fun w => run_alloc25 _ _ _ _ _ w) h
theorem wl_alloc28 (H : St S w0 w L) (h : ∀ g w', St S w0 w' ((true, g, 28, reA 0 noSet (.slice none 0 0) 0 0) :: L) → w0.heap.size ≤ g → w.heap.size ≤ g → wpList Tryd.prog ops Q rest (a.put dst (.pointer (some ⟨g, 0, none⟩))) w') : wpList Tryd.prog ops Q (⟨dst, .alloc 28, ty, pos, after, none⟩ :: rest) a w :=
  wl_alloc 28 _ H (fun w => run_alloc28 _ _ _ _ _ w) h
theorem wl_box25 (H : St S w0 w L) {s : S4} (hx : a.eval x = setV s) (h : ∀ g w', St S w0 w' ((true, g, 25, setA s) :: L) → w0.heap.size ≤ g → w.heap.size ≤ g → wpList Tryd.prog ops Q rest (a.put dst (.pointer (some ⟨g, 0, none⟩))) w') : wpList Tryd.prog ops Q (⟨dst, .box 25 x, ty, pos, after, none⟩ :: rest) a w := by
  refine wpList_plain rfl fun K hK => ?_
  unfold Oper.wp
  rw [run_box25 _ _ _ _ _ _ s hx, Oper.upon_value]
  exact hK _ _ (h _ _ (H.alloc 25 _) H.but.size (Nat.le_refl _))
theorem wl_box28 (H : St S w0 w L) {n : Int} {s : S4} {l : Value} {mn mx : Int} (hx : a.eval x = reV n s l mn mx) (h : ∀ g w', St S w0 w' ((true, g, 28, reA n s l mn mx) :: L) → w0.heap.size ≤ g → w.heap.size ≤ g → wpList Tryd.prog ops Q rest (a.put dst (.pointer (some ⟨g, 0, none⟩))) w') : wpList Tryd.prog ops Q (⟨dst, .box 28 x, ty, pos, after, none⟩ :: rest) a w := by
  refine wpList_plain rfl fun K hK => ?_
  unfold Oper.wp
  rw [run_box28 _ _ _ _ _ _ n s l mn mx hx, Oper.upon_value]
  exact hK _ _ (h _ _ (H.alloc 28 _) H.but.size (Nat.le_refl _))
theorem wl_store25 (i : Nat) (H : St S w0 w L) {g : Nat} {s s' : S4} (h : L[i]? = some (true, g, 25, setA s)) (hx : a.eval x = .pointer (some ⟨g, 0, none⟩)) (hy : a.eval y = setV s')
    (k : ∀ w', St S w0 w' (L.set i (true, g, 25, setA s')) → wpList Tryd.prog ops Q rest a w') : wpList Tryd.prog ops Q (⟨none, .store 25 x y, ty, pos, after, none⟩ :: rest) a w :=
  wl_store i 25 H h hx hy (size25' s') rfl (one25 s') k
theorem wl_store28 (i : Nat) (H : St S w0 w L) {g : Nat} {n : Int} {s : S4} {l : Value} {mn mx : Int} {n' : Int} {s' : S4} {l' : Value} {mn' mx' : Int} (h : L[i]? = some (true, g, 28, reA n s l mn mx)) (hx : a.eval x = .pointer (some ⟨g, 0, none⟩)) (hy : a.eval y = reV n' s' l' mn' mx') (hl : l'.oneCell' = true)
    (k : ∀ w', St S w0 w' (L.set i (true, g, 28, reA n' s' l' mn' mx')) → wpList Tryd.prog ops Q rest a w') : wpList Tryd.prog ops Q (⟨none, .store 28 x y, ty, pos, after, none⟩ :: rest) a w :=
  wl_store i 28 H h hx hy size28 rfl (by have h1 : ∀ k n, (Value.int k n).oneCell' = true := fun _ _ => rfl; simp [reA, hl, h1]) k
end
end Go.Proofs.YtnbhpojcckhlmaaDoor
