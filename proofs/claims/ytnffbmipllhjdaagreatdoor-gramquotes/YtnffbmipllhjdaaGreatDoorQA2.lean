/-
  What GramQuotes stands on, part 2 (of: L P T X QA Ya Yb Yc).
-/
import Derived.Test.YtnffbmipllhjdaaGreatDoorQA1
import Derived.Laws.AppendOwnNone
import Derived.Deep.AppendLies
import Derived.RangeFuncNested
import Derived.RangeFuncBound
import Derived.RangeFuncCalls
import Derived.RangeFuncLeaves
import Derived.RangeFuncFrom
import Derived.RangeFuncWrites
import Derived.Shelf.Abstract
import Derived.Shelf.RegionOpen
import Derived.OwnWalkIn
import Derived.TacticsInMore
import Derived.LoopNIn
import Derived.LoopIn
import Derived.Shelf.Lay
import Derived.Shelf.Strings.Builder1
import Derived.Shelf.Small.Strs
import Derived.WalkKit
namespace Go.Proofs.YtnffbmipllhjdaaGreatDoor
open Go.RowKit
set_option linter.unusedVariables false
set_option linter.unusedSimpArgs false

/-- One of a pattern, without its members. -/
structure Nd where
  k : Int
  s : S4
  mn : Int
  mx : Int
/-- A list of patterns: the first one, its members, the rest. -/
inductive Fo where
  | nil : Fo
  | cons : Nd → Fo → Fo → Fo
/-- A pattern: itself, its members. -/
abbrev Tr := Nd × Fo
def Fo.len : Fo → Nat
  | .nil => 0
  | .cons _ _ r => r.len + 1
def Fo.snoc : Fo → Tr → Fo
  | .nil, t => .cons t.1 t.2 .nil
  | .cons n k r, t => .cons n k (r.snoc t)
theorem Fo.len_snoc (f : Fo) (t : Tr) : (f.snoc t).len = f.len + 1 := by
  induction f with
  | nil => rfl
  | cons n k r _ ih => simp [Fo.snoc, Fo.len, ih]
/-- What comes out: a place where it goes wrong, or a pattern and the place behind it. -/
abbrev Out := Except Nat (Tr × Nat)
def leaf (x : S4) : Tr := (⟨1, x, 0, 0⟩, .nil)
def rep (t : Tr) (mn mx : Int) : Tr := (⟨4, noSet, mn, mx⟩, .cons t.1 t.2 .nil)
def tog (k : Int) : Fo → Tr
  | .cons n kids .nil => (n, kids)
  | f => (⟨k, noSet, 0, 0⟩, f)
def atomM (br : Nat → Out) (s : ByteArray) (a : Nat) : Out :=
  if bt s a = 40 then br a else if (setR s a).2.2 = true then .ok (leaf (setR s a).1, (setR s a).2.1) else .error (setR s a).2.1
def pieceM (br : Nat → Out) (s : ByteArray) (a : Nat) : Out := match atomM br s a with
  | .error p => .error p
  | .ok (t, d) => if (timesR s d).2.2 = true then (if (timesR s d).1.1 = 4 then .ok (rep t (timesR s d).1.2.1 (timesR s d).1.2.2, (timesR s d).2.1) else .ok (t, (timesR s d).2.1)) else .error (timesR s d).2.1
def seqL (br : Nat → Out) (s : ByteArray) : Nat → Fo → Nat → Except Nat (Fo × Nat)
  | 0, f, a => .ok (f, a)
  | n + 1, f, a => if a < s.size ∧ bt s a ≠ 124 ∧ bt s a ≠ 41 then (match pieceM br s a with
      | .error p => .error p
      | .ok (t, d) => seqL br s n (f.snoc t) d) else .ok (f, a)
def seqM (br : Nat → Out) (s : ByteArray) (a : Nat) : Out := match seqL br s (s.size + 1 - a) .nil a with
  | .error p => .error p
  | .ok (f, d) => .ok (tog 2 f, d)
def altL (br : Nat → Out) (s : ByteArray) : Nat → Fo → Nat → Except Nat (Fo × Nat)
  | 0, f, a => .ok (f, a)
  | n + 1, f, a => if bt s a = 124 then (match seqM br s (a + 1) with
      | .error p => .error p
      | .ok (t, d) => altL br s n (f.snoc t) d) else .ok (f, a)
def altM (br : Nat → Out) (s : ByteArray) (a : Nat) : Out := match seqM br s a with
  | .error p => .error p
  | .ok (t, d) => match altL br s (s.size + 1 - d) (Fo.nil.snoc t) d with
    | .error p => .error p
    | .ok (f, d2) => .ok (tog 3 f, d2)
def brM (s : ByteArray) : Nat → Nat → Out
  | 0, a => .error a
  | m + 1, a => if (opR s a).2 = true then (match altM (brM s m) s (opR s a).1 with
      | .error p => .error p
      | .ok (t, d) => if bt s d = 41 then .ok (t, d + 1) else .error d) else .error (opR s a).1
def parseM (s : ByteArray) : Except Nat Tr := match altM (brM s 32) s 0 with
  | .error p => .error p
  | .ok (t, d) => if d = s.size then .ok t else .error d
/-- In w the cells xs are a list of patterns f; the rows of members lie in blocks in P. -/
def Kd (w : World) (P : Nat → Prop) : Fo → List Value → Prop
  | .nil, xs => xs = []
  | .cons n kids rest, xs => ∃ v ys zs, xs = (reA n.k n.s v n.mn n.mx).toList ++ ys ∧ w.ownsRow 0 27 8 v kids.len zs ∧ (∀ b, v.ownBlock = some b → P b) ∧ Kd w P kids zs ∧ Kd w P rest ys
/-- The value x is the pattern t in memory. -/
def TrV (w : World) (P : Nat → Prop) (x : Value) (t : Tr) : Prop :=
  ∃ v zs, x = reV t.1.k t.1.s v t.1.mn t.1.mx ∧ w.ownsRow 0 27 8 v t.2.len zs ∧ (∀ b, v.ownBlock = some b → P b) ∧ Kd w P t.2 zs
theorem owns8_of_block {w w' : World} {base n : Nat} {v : Value} {xs : List Value} (h : w.ownsRow base 27 8 v n xs) (hb : ∀ k, v.ownBlock = some k → w'.heap[k]? = w.heap[k]?) : w'.ownsRow base 27 8 v n xs := by
  refine ⟨h.1, ?_⟩
  rcases h.2 with h1 | ⟨g, cap, cur, rfl, h2, h3, h4⟩
  · exact .inl h1
  · exact .inr ⟨g, cap, cur, rfl, h2, (hb g rfl).trans h3, h4⟩
theorem owns8_mono {w : World} {base base' n : Nat} {v : Value} {xs : List Value} (h : w.ownsRow base 27 8 v n xs) (hb : base' ≤ base) : w.ownsRow base' 27 8 v n xs := by
  refine ⟨h.1, ?_⟩
  rcases h.2 with h1 | ⟨g, cap, cur, rfl, h2, h3⟩
  · exact .inl h1
  · exact .inr ⟨g, cap, cur, rfl, by omega, h3⟩
theorem owns8_lt {w : World} {base n : Nat} {v : Value} {xs : List Value} (h : w.ownsRow base 27 8 v n xs) {k : Nat} (hk : v.ownBlock = some k) : base ≤ k ∧ k < w.heap.size := by
  rcases h.2 with ⟨rfl, _⟩ | ⟨g, cap, cur, rfl, h2, h3, _⟩
  · cases hk
  · cases hk; exact ⟨h2, (Array.getElem?_eq_some_iff.1 h3).1⟩
theorem owns8_val {w : World} {base n : Nat} {v : Value} {xs : List Value} (h : w.ownsRow base 27 8 v n xs) : ∃ a cap, v = .slice a n cap ∧ n ≤ cap ∧ cap ≤ maxLen := by
  rcases h.2 with ⟨rfl, rfl⟩ | ⟨g, cap, cur, rfl, h2, h3, h4, h5, _⟩
  · exact ⟨none, 0, rfl, Nat.le_refl _, Nat.zero_le _⟩
  · exact ⟨some ⟨g, 0, none⟩, cap, rfl, h4, h5⟩
theorem Kd.kept {w w' : World} {P : Nat → Prop} (hb : ∀ b, P b → b < w.heap.size → w'.heap[b]? = w.heap[b]?) : ∀ {f : Fo} {xs : List Value}, Kd w P f xs → Kd w' P f xs
  | .nil, _, h => h
  | .cons n kids rest, xs, ⟨v, ys, zs, e, o, p, k1, k2⟩ => ⟨v, ys, zs, e, owns8_of_block o (fun k hk => hb k (p k hk) (owns8_lt o hk).2), p, Kd.kept hb k1, Kd.kept hb k2⟩
theorem Kd.mono {w : World} {P P' : Nat → Prop} (hp : ∀ b, b < w.heap.size → P b → P' b) : ∀ {f : Fo} {xs : List Value}, Kd w P f xs → Kd w P' f xs
  | .nil, _, h => h
  | .cons n kids rest, xs, ⟨v, ys, zs, e, o, p, k1, k2⟩ => ⟨v, ys, zs, e, o, fun b hb => hp b (owns8_lt o hb).2 (p b hb), Kd.mono hp k1, Kd.mono hp k2⟩
theorem Kd.snoc {w : World} {P : Nat → Prop} {t : Tr} {v : Value} {zs : List Value} (ho : w.ownsRow 0 27 8 v t.2.len zs) (hp : ∀ b, v.ownBlock = some b → P b) (hk : Kd w P t.2 zs) : ∀ {f : Fo} {xs : List Value}, Kd w P f xs → Kd w P (f.snoc t) (xs ++ (reA t.1.k t.1.s v t.1.mn t.1.mx).toList)
  | .nil, xs, h => by cases h; exact ⟨v, [], zs, by simp, ho, hp, hk, rfl⟩
  | .cons n kids rest, xs, ⟨u, ys, us, e, o, p, k1, k2⟩ => ⟨u, ys ++ (reA t.1.k t.1.s v t.1.mn t.1.mx).toList, us, by rw [e, List.append_assoc], o, p, k1, Kd.snoc ho hp hk k2⟩
theorem TrV.kept {w w' : World} {P : Nat → Prop} {x : Value} {t : Tr} (h : TrV w P x t) (hb : ∀ b, P b → b < w.heap.size → w'.heap[b]? = w.heap[b]?) : TrV w' P x t := by
  obtain ⟨v, zs, e, o, p, k⟩ := h
  exact ⟨v, zs, e, owns8_of_block o (fun k hk => hb k (p k hk) (owns8_lt o hk).2), p, k.kept hb⟩
theorem TrV.mono {w : World} {P P' : Nat → Prop} {x : Value} {t : Tr} (h : TrV w P x t) (hp : ∀ b, b < w.heap.size → P b → P' b) : TrV w P' x t := by
  obtain ⟨v, zs, e, o, p, k⟩ := h
  exact ⟨v, zs, e, o, fun b hb => hp b (owns8_lt o hb).2 (p b hb), k.mono hp⟩
/-- The first of a list that is one. -/
theorem info28 : ∃ i, Tryz.prog.info? 27 = some i ∧ i.zero = some (reV 0 noSet (.slice none 0 0) 0 0) ∧ i.size = 8 ∧ i.bytes = 80 := by
  have h : (Tryz.prog.info? 27).map (fun i => (i.zero, i.size, i.bytes)) = some (some (reV 0 noSet (.slice none 0 0) 0 0), 8, 80) := by kernel_rfl
  cases hi : Tryz.prog.info? 27 with
  | none => rw [hi] at h; cases h
  | some i =>
    rw [hi] at h
    simp only [Option.map_some, Option.some.injEq, Prod.mk.injEq] at h
    exact ⟨i, rfl, h.1, h.2.1, h.2.2⟩
open Go.RowKit
set_option linter.unusedVariables false
set_option linter.unusedSimpArgs false

theorem ld3 {w : World} {ad : Addr} {v : Value} (h : w.cell? ad = some v) : (loadVar 3 ad).run Tryz.prog w = .ok v w := by
  have ha : ∀ w, (isAgg 3).run Tryz.prog w = .ok false w := fun w => by kernel_rfl
  simp [loadVar, ha, go_sem, h]
theorem ld4 {w : World} {ad : Addr} {v : Value} (h : w.cell? ad = some v) : (loadVar 4 ad).run Tryz.prog w = .ok v w := by
  have ha : ∀ w, (isAgg 4).run Tryz.prog w = .ok false w := fun w => by kernel_rfl
  simp [loadVar, ha, go_sem, h]
theorem ld9 {w : World} {ad : Addr} {v : Value} (h : w.cell? ad = some v) : (loadVar 9 ad).run Tryz.prog w = .ok v w := by
  have ha : ∀ w, (isAgg 9).run Tryz.prog w = .ok false w := fun w => by kernel_rfl
  simp [loadVar, ha, go_sem, h]
theorem ld26 {w : World} {ad : Addr} {v : Value} (h : w.cell? ad = some v) : (loadVar 25 ad).run Tryz.prog w = .ok v w := by
  have ha : ∀ w, (isAgg 25).run Tryz.prog w = .ok false w := fun w => by kernel_rfl
  simp [loadVar, ha, go_sem, h]
theorem ld59 {w : World} {ad : Addr} {v : Value} (h : w.cell? ad = some v) : (loadVar 183 ad).run Tryz.prog w = .ok v w := by
  have ha : ∀ w, (isAgg 183).run Tryz.prog w = .ok false w := fun w => by kernel_rfl
  simp [loadVar, ha, go_sem, h]
theorem ld70 {w : World} {ad : Addr} {v : Value} (h : w.cell? ad = some v) : (loadVar 238 ad).run Tryz.prog w = .ok v w := by
  have ha : ∀ w, (isAgg 238).run Tryz.prog w = .ok false w := fun w => by kernel_rfl
  simp [loadVar, ha, go_sem, h]
theorem load28c {w : World} {b o : Nat} {k : Int} {s : S4} {l : Value} {mn mx : Int} (h : ∀ j v, (reA k s l mn mx)[j]? = some v → w.cell? ⟨b, o + j, none⟩ = some v) : (loadVar 27 ⟨b, o, none⟩).run Tryz.prog w = .ok (reV k s l mn mx) w := by
  have h0 := h 0 _ rfl
  have h1 := h 1 _ rfl
  have h2 := h 2 _ rfl
  have h3 := h 3 _ rfl
  have h4 := h 4 _ rfl
  have h5 := h 5 _ rfl
  have h6 := h 6 _ rfl
  have h7 := h 7 _ rfl
  have hz : ∀ w, (sizeOf 27).run Tryz.prog w = .ok 8 w := fun w => by kernel_rfl
  have ha : ∀ w, (isAgg 27).run Tryz.prog w = .ok true w := fun w => by kernel_rfl
  simp only [Nat.add_zero] at h0
  simp [loadVar, hz, ha, loadCells, go_sem, h0, h1, h2, h3, h4, h5, h6, h7, add_plain]
  rfl
section
variable {S : Nat → Prop} {w0 w w' : World} {L : List Ent} {ops : Array Oper} {rest : List Oper} {a : Act} {Q : Exit → Act → World → Prop} {dst : Option Nat} {x y : Operand} {ty : TypeId} {pos : String} {after : Array Edge}
/-- A cell of a box is loaded. -/
theorem wl_ld3 (i j : Nat) (H : St S w0 w L) {b : Bool} {g : Nat} {t : TypeId} {xs : Array Value} {v : Value} (h : L[i]? = some (b, g, t, xs)) (hv : xs[j]? = some v) (hx : a.eval x = .pointer (some ⟨g, j, none⟩)) (k : wpList Tryz.prog ops Q rest (a.put dst v) w) : wpList Tryz.prog ops Q (⟨dst, .load 3 x, ty, pos, after, none⟩ :: rest) a w := wl_loadA 3 hx (ld3 (H.cell i j h hv)) k
theorem wl_ld4 (i j : Nat) (H : St S w0 w L) {b : Bool} {g : Nat} {t : TypeId} {xs : Array Value} {v : Value} (h : L[i]? = some (b, g, t, xs)) (hv : xs[j]? = some v) (hx : a.eval x = .pointer (some ⟨g, j, none⟩)) (k : wpList Tryz.prog ops Q rest (a.put dst v) w) : wpList Tryz.prog ops Q (⟨dst, .load 4 x, ty, pos, after, none⟩ :: rest) a w := wl_loadA 4 hx (ld4 (H.cell i j h hv)) k
theorem wl_ld9 (i j : Nat) (H : St S w0 w L) {b : Bool} {g : Nat} {t : TypeId} {xs : Array Value} {v : Value} (h : L[i]? = some (b, g, t, xs)) (hv : xs[j]? = some v) (hx : a.eval x = .pointer (some ⟨g, j, none⟩)) (k : wpList Tryz.prog ops Q rest (a.put dst v) w) : wpList Tryz.prog ops Q (⟨dst, .load 9 x, ty, pos, after, none⟩ :: rest) a w := wl_loadA 9 hx (ld9 (H.cell i j h hv)) k
theorem wl_ld26 (i j : Nat) (H : St S w0 w L) {b : Bool} {g : Nat} {t : TypeId} {xs : Array Value} {v : Value} (h : L[i]? = some (b, g, t, xs)) (hv : xs[j]? = some v) (hx : a.eval x = .pointer (some ⟨g, j, none⟩)) (k : wpList Tryz.prog ops Q rest (a.put dst v) w) : wpList Tryz.prog ops Q (⟨dst, .load 25 x, ty, pos, after, none⟩ :: rest) a w := wl_loadA 25 hx (ld26 (H.cell i j h hv)) k
theorem wl_ld59 (i j : Nat) (H : St S w0 w L) {b : Bool} {g : Nat} {t : TypeId} {xs : Array Value} {v : Value} (h : L[i]? = some (b, g, t, xs)) (hv : xs[j]? = some v) (hx : a.eval x = .pointer (some ⟨g, j, none⟩)) (k : wpList Tryz.prog ops Q rest (a.put dst v) w) : wpList Tryz.prog ops Q (⟨dst, .load 183 x, ty, pos, after, none⟩ :: rest) a w := wl_loadA 183 hx (ld59 (H.cell i j h hv)) k
/-- A number, or a truth, is stored into a box of one cell. -/
theorem wl_st3 (i : Nat) (H : St S w0 w L) {g : Nat} {u : Value} {v : Int} (h : L[i]? = some (true, g, 3, #[u])) (hx : a.eval x = .pointer (some ⟨g, 0, none⟩)) (hy : a.eval y = .int .i64 v)
    (k : ∀ w', St S w0 w' (L.set i (true, g, 3, #[.int .i64 v])) → wpList Tryz.prog ops Q rest a w') : wpList Tryz.prog ops Q (⟨none, .store 3 x y, ty, pos, after, none⟩ :: rest) a w :=
  wl_store1 i 0 3 H h hx hy (by simp) one3 rfl k
theorem wl_st4 (i : Nat) (H : St S w0 w L) {g : Nat} {u : Value} {v : Bool} (h : L[i]? = some (true, g, 4, #[u])) (hx : a.eval x = .pointer (some ⟨g, 0, none⟩)) (hy : a.eval y = .bool v)
    (k : ∀ w', St S w0 w' (L.set i (true, g, 4, #[.bool v])) → wpList Tryz.prog ops Q rest a w') : wpList Tryz.prog ops Q (⟨none, .store 4 x y, ty, pos, after, none⟩ :: rest) a w :=
  wl_store1 i 0 4 H h hx hy (by simp) one4 rfl k
/-- From here on: what may be written are the boxes. -/
theorem St.rebase (H : St S w0 w L) (S' : Nat → Prop) (h : ∀ x ∈ L, x.1 = true → S' x.2.1) : St S' w w L := ⟨But.refl _ _, H.all, fun x hx hr _ => h x hx hr, H.nd⟩
theorem St.grown (H : St S w0 w L) {row : Option Nat} (hg : w.grownBy w' row) (hr : ∀ k, row = some k → (∀ x ∈ L, x.2.1 ≠ k) ∧ (k < w0.heap.size → S k)) : St S w0 w' L :=
  ⟨H.but.grown hg (fun k hk => (hr k hk).2), fun x hx => by
    rw [hg.block _ (H.lt hx) (fun e => (hr _ e.symm).1 x hx rfl)]; exact H.all x hx, H.ok, H.nd⟩
end
/-- A row of patterns of the call's own: v has the patterns f. -/
def Rw (w : World) (base : Nat) (v : Value) (f : Fo) : Prop := ∃ xs, w.ownsRow base 27 8 v f.len xs ∧ Kd w (fun b => base ≤ b ∧ v.ownBlock ≠ some b) f xs
theorem Rw.start (w : World) (base : Nat) : Rw w base (.slice none 0 0) .nil := ⟨[], ⟨rfl, .inl ⟨rfl, rfl⟩⟩, rfl⟩
theorem Rw.kept {w w' : World} {base : Nat} {v : Value} {f : Fo} (h : Rw w base v f) (hb : ∀ b, base ≤ b → b < w.heap.size → w'.heap[b]? = w.heap[b]?) : Rw w' base v f := by
  obtain ⟨xs, o, k⟩ := h
  exact ⟨xs, owns8_of_block o (fun b hk => hb b (owns8_lt o hk).1 (owns8_lt o hk).2), k.kept (fun b hP hl => hb b hP.1 hl)⟩
theorem Rw.lt {w : World} {base : Nat} {v : Value} {f : Fo} (h : Rw w base v f) {k : Nat} (hk : v.ownBlock = some k) : base ≤ k ∧ k < w.heap.size := by
  obtain ⟨xs, o, _⟩ := h
  exact owns8_lt o hk
theorem reA_one {k : Int} {s : S4} {v : Value} {mn mx : Int} (hv : v.oneCell' = true) : ∀ u ∈ (reA k s v mn mx).toList, u.oneCell' = true := fun u hu => by
  have h1 : ∀ k n, (Value.int k n).oneCell' = true := fun _ _ => rfl
  simp only [reA, List.mem_cons, List.not_mem_nil, or_false] at hu
  rcases hu with rfl | rfl | rfl | rfl | rfl | rfl | rfl | rfl <;> first | exact h1 _ _ | exact hv
theorem run_bs26 (k : Int) (s : S4) (v : Value) (mn mx : Int) (w : World) : (Instr.buildSlice 25 1 #[(0, reV k s v mn mx)]).run Tryz.prog w = .ok (.slice (some ⟨w.heap.size, 0, none⟩) 1 1) (w.alloc (.cells (reA k s v mn mx) 27)) := by kernel_rfl
section
variable {S : Nat → Prop} {w0 w w' : World} {L : List Ent} {ops : Array Oper} {rest : List Oper} {a : Act} {Q : Exit → Act → World → Prop} {x y : Operand} {ty ty2 : TypeId} {pos pos2 : String} {after after2 : Array Edge}
theorem at_snoc {d1 d2 : Nat} {s x : Operand} (h : wpList Tryz.prog ops Q (⟨some d1, .buildSlice 25 1 #[(0, x)], ty, pos, after, none⟩ :: ⟨some d2, .call { callee := .builtin .append, args := #[s, .tmp d1], argTypes := #[25, 25] }, ty2, pos2, after2, none⟩ :: rest) a w) :
    wpList Tryz.prog ops Q (⟨some d1, .buildSlice 25 1 #[(0, x)], ty, pos, after, none⟩ :: ⟨some d2, .call { callee := .builtin .append, args := #[s, .tmp d1], argTypes := #[25, 25] }, ty2, pos2, after2, none⟩ :: rest) a w := h
/-- A pattern is appended to a row of one's own. -/
theorem wl_snoc {d1 d2 : Nat} {s : Operand} (H : St S w0 w L) {base m : Nat} {v z : Value} {f : Fo} {t : Tr} (R : Rw w base v f) (T : TrV w (fun b => m ≤ b) z t) (hs : ∀ u, (a.put (some d1) u).eval s = v) (ht : ∀ u, (a.put (some d1) u).eval (.tmp d1) = u) (hx : a.eval x = z)
    (hm : ∀ k, v.ownBlock = some k → k < m) (hbm : base ≤ m) (hmw : m ≤ w.heap.size) (hf : f.len ≤ 1000000) (hL : ∀ e ∈ L, e.2.1 < base) (h0 : w0.heap.size ≤ base)
    (k : ∀ u v2 w2, St S w0 w2 L → Rw w2 base v2 (f.snoc t) → w.heap.size ≤ w2.heap.size → wpList Tryz.prog ops Q rest ((a.put (some d1) u).put (some d2) v2) w2) :
    wpList Tryz.prog ops Q (⟨some d1, .buildSlice 25 1 #[(0, x)], ty, pos, after, none⟩ :: ⟨some d2, .call { callee := .builtin .append, args := #[s, .tmp d1], argTypes := #[25, 25] }, ty2, pos2, after2, none⟩ :: rest) a w := by
  obtain ⟨i0, hi, hz0, hz1, hz2⟩ := info28
  obtain ⟨u, zs, rfl, o, p, kd⟩ := T
  obtain ⟨xs, ro, rk⟩ := R
  obtain ⟨ua, uc, hu, _, _⟩ := owns8_val o
  have hu1 : u.oneCell' = true := by rw [hu]; rfl
  refine wpList_plain rfl fun K hK => ?_
  unfold Oper.wp execOp
  simp only [List.map_toArray, List.map_cons, List.map_nil, hx, Sem.run_bind, run_bs26, Result.andThen_ok, Sem.run_pure]
  refine hK _ _ ?_
  generalize hA : reA t.1.k t.1.s u t.1.mn t.1.mx = A at *
  have hAl : A.toList.length = 8 := by rw [← hA]; rfl
  have hold : ∀ b, b < w.heap.size → (w.alloc (.cells A 27)).heap[b]? = w.heap[b]? := fun b hb => Below.heap_alloc _ _ _ hb
  refine wpList_append_lies (P := Tryz.prog) (w := w.alloc (.cells A 27)) rfl s (.tmp d1) 25 rfl base 27 i0 (reV 0 noSet (.slice none 0 0) 0 0) 8 80 Tryz.underlying25 hi hz0 hz1 hz2 rfl (by decide) v f.len xs (hs _) (owns8_of_block ro (fun b hb => hold b (owns8_lt ro hb).2)) ⟨w.heap.size, 0, none⟩ 1 1 A.toList (ht _) (by omega) ?_ (by rw [← hA]; exact reA_one hu1) (by omega) (by unfold maxLen; omega) (by omega) (by simp; omega) (w.heap.size + 1) (by simp) ?_
  · intro j v' hj
    rw [add_plain, Nat.zero_add, cell_of_row _ _ _ _ _ _ (heap_alloc_new w _)]
    simpa using hj
  · intro g cap w2 hown hg hat hlt
    have H1 := (H.alloc 27 A).tail
    have hsz : w.heap.size ≤ w2.heap.size := by have := hg.size; simp at this; omega
    refine k _ _ w2 (H1.grown hg (fun j hj => ⟨fun e he => ?_, fun hl => ?_⟩)) ⟨xs ++ A.toList, by rw [Fo.len_snoc]; exact hown, ?_⟩ hsz
    · have := hL e he
      have := owns8_lt ro hj
      omega
    · have := owns8_lt ro hj
      omega
    · have keep : ∀ b, b < w.heap.size → v.ownBlock ≠ some b → w2.heap[b]? = w.heap[b]? := fun b hb hn => by
        rw [hg.block b (by simp; omega) (fun e => hn e.symm), hold b hb]
      have ne : ∀ b, b < w.heap.size → v.ownBlock ≠ some b → (Value.slice (some ⟨g, 0, none⟩) (f.len + 1) cap).ownBlock ≠ some b := fun b hb hn e => by
        have e2 : g = b := by simpa [Value.ownBlock] using e
        rcases hat with h | h
        · exact hn (by rw [h, e2])
        · omega
      have far : ∀ b, m ≤ b → v.ownBlock ≠ some b := fun b hb e => by have := hm b e; omega
      have step : ∀ {ff : Fo} {ys : List Value} {PP : Nat → Prop}, Kd w PP ff ys → (∀ b, PP b → base ≤ b ∧ v.ownBlock ≠ some b) → Kd w2 (fun b => base ≤ b ∧ (Value.slice (some ⟨g, 0, none⟩) (f.len + 1) cap).ownBlock ≠ some b) ff ys := fun hk hP =>
        ((hk.mono (P' := fun b => (base ≤ b ∧ (Value.slice (some ⟨g, 0, none⟩) (f.len + 1) cap).ownBlock ≠ some b) ∧ v.ownBlock ≠ some b) (fun b hb hp => ⟨⟨(hP b hp).1, ne b hb (hP b hp).2⟩, (hP b hp).2⟩)).kept (w' := w2) (fun b hp hl => keep b hl hp.2)).mono (fun b _ hp => hp.1)
      have o2 := owns8_of_block (w' := w2) o (fun b hb => keep b (owns8_lt o hb).2 (far b (p b hb)))
      rw [← hA]
      refine Kd.snoc o2 (fun b hb => ⟨by have := p b hb; omega, ne b (owns8_lt o hb).2 (far b (p b hb))⟩) (step kd (fun b hb => ⟨by omega, far b hb⟩)) (step rk (fun b hb => hb))
end
open Go.RowKit
set_option linter.unusedVariables false
set_option linter.unusedSimpArgs false

set_option maxHeartbeats 2000000 in
theorem together_any (k : Int) (f : Fo) (v : Value) (w : World) (P : Nat → Prop) (xs : List Value) (ho : w.ownsRow 0 27 8 v f.len xs) (hp : ∀ b, v.ownBlock = some b → P b) (hk : Kd w P f xs) :
    Calls Tryz.prog 123 #[.int .i64 k, v] w fun e w' => ∃ x, e = .returned x ∧ TrV w' P x (tog k f) ∧ Below w.heap.size w w' := by
  have H := St.start Nope w
  obtain ⟨a, cap, rfl, hc1, hc2⟩ := owns8_val ho
  by_cases h1 : f.len = 1
  · obtain ⟨nd, kids, rfl⟩ : ∃ nd kids, f = .cons nd kids .nil := by
      cases f with
      | nil => simp [Fo.len] at h1
      | cons nd kids r => cases r with
        | nil => exact ⟨nd, kids, rfl⟩
        | cons _ _ _ => simp [Fo.len] at h1
    obtain ⟨v, ys, zs, e, o2, p2, k1, k2⟩ := hk
    have e2 : ys = [] := k2
    subst e2
    have hcell : ∃ b, a = some ⟨b, 0, none⟩ ∧ b < w.heap.size ∧ ∀ j u, (reA nd.k nd.s v nd.mn nd.mx)[j]? = some u → w.cell? ⟨b, 0 + j, none⟩ = some u := by
      rcases ho.2 with ⟨_, h0⟩ | ⟨g, cap', cur, hv, _, hg, _⟩
      · simp [Fo.len] at h0
      · cases hv
        refine ⟨g, rfl, (Array.getElem?_eq_some_iff.1 hg).1, fun j u hj => ?_⟩
        have := ho.cells (g := g) rfl j u (by rw [e]; simpa using hj)
        rw [add_plain] at this
        exact this
    obtain ⟨b, rfl, hb, hcell⟩ := hcell
    obtain ⟨va, vc, hv, _, _⟩ := owns8_val o2
    subst hv
    simp only [Fo.len, Nat.zero_add] at h1 ⊢
    have T : Hid (TrV w P (reV nd.k nd.s (.slice va kids.len vc) nd.mn nd.mx) (nd, kids)) := ⟨_, zs, rfl, o2, p2, k1⟩
    have hl := hide (fun w' (hb' : Below w.heap.size w w') => load28c (w := w') (b := b) (o := 0) (fun j u hj => (hb'.cell (p := ⟨b, 0 + j, none⟩) hb).trans (hcell j u hj)))
    clear hcell ho o2 p2 k1 k2 e hp
    go_enter Tryz.func123, Tryz.ntmps123
    go_wp2_with (first | (with_reducible refine at_alloc 27 ?_; refine wl_alloc28 H ?_; clear H; intro g w' H q1 q2) | (with_reducible refine at_load 27 ?_; refine wl_loadA 27 rfl (hl.out _ H.below) ?_) | (with_reducible refine at_store 27 ?_; refine wl_store28 0 H rfl rfl rfl rfl ?_; clear H; intro w' H))
    refine bodyPost_ret (results_cell0 rfl _ _ _ _ rfl (load28 (H.get 0 rfl))) rfl ?_
    refine ⟨_, rfl, ?_, H.below⟩
    exact T.out.kept (fun b' hP hb' => H.below.block b' hb')
  · have e : Hid (tog k f = (⟨k, noSet, 0, 0⟩, f)) := by
      show tog k f = _
      cases f with
      | nil => rfl
      | cons nd kids r => cases r with
        | nil => simp [Fo.len] at h1
        | cons _ _ _ => rfl
    have h2 : ((f.len : Int) == 1) = false := beq_eq_false_iff_ne.2 (by omega)
    have T : Hid (TrV w P (reV k noSet (.slice a f.len cap) 0 0) (⟨k, noSet, 0, 0⟩, f)) := ⟨_, xs, rfl, ho, hp, hk⟩
    clear ho hp hk
    replace h1 := hide h1
    go_enter Tryz.func123, Tryz.ntmps123
    go_wp2_with (first | (with_reducible refine at_alloc 27 ?_; refine wl_alloc28 H ?_; clear H; intro g w' H q1 q2) | (with_reducible refine at_store 27 ?_; refine wl_store28 0 (n' := k) (s' := noSet) (l' := .slice a f.len cap) (mn' := 0) (mx' := 0) H rfl rfl rfl rfl ?_; clear H; intro w' H))
    refine bodyPost_ret (results_cell0 rfl _ _ _ _ rfl (load28 (H.get 0 rfl))) rfl ?_
    refine ⟨_, rfl, ?_, H.below⟩
    rw [e.out]
    exact T.out.kept (fun b' hP hb' => H.below.block b' hb')
/-- The closures of a parser whose boxes lie from n on. -/
def brF (n : Nat) : Value := .func (.func 115) #[] #[.pointer (some ⟨n + 2, 0, none⟩), .pointer (some ⟨n + 3, 0, none⟩), .pointer (some ⟨n, 0, none⟩), .pointer (some ⟨n + 1, 0, none⟩), .pointer (some ⟨n + 4, 0, none⟩)]
def atF (n : Nat) : Value := .func (.func 118) #[] #[.pointer (some ⟨n, 0, none⟩), .pointer (some ⟨n + 1, 0, none⟩), .pointer (some ⟨n + 5, 0, none⟩), .pointer (some ⟨n + 3, 0, none⟩)]
def piF (n : Nat) : Value := .func (.func 120) #[] #[.pointer (some ⟨n + 6, 0, none⟩), .pointer (some ⟨n + 3, 0, none⟩), .pointer (some ⟨n, 0, none⟩), .pointer (some ⟨n + 1, 0, none⟩)]
def seF (n : Nat) : Value := .func (.func 122) #[] #[.pointer (some ⟨n + 3, 0, none⟩), .pointer (some ⟨n + 1, 0, none⟩), .pointer (some ⟨n, 0, none⟩), .pointer (some ⟨n + 7, 0, none⟩)]
def alF (n : Nat) : Value := .func (.func 124) #[] #[.pointer (some ⟨n + 8, 0, none⟩), .pointer (some ⟨n + 3, 0, none⟩), .pointer (some ⟨n, 0, none⟩), .pointer (some ⟨n + 1, 0, none⟩)]
/-- The boxes of a parser: its place, how many brackets are open, whether it is right; its text, its closures. -/
def env (n : Nat) (s : ByteArray) (a : Nat) (o : Int) (r : Bool) : List Ent :=
  [(true, n + 1, 3, #[.int .i64 (a : Int)]), (true, n + 2, 3, #[.int .i64 o]), (true, n + 3, 4, #[.bool r]), (false, n, 9, #[.string s]),
   (false, n + 4, 183, #[alF n]), (false, n + 5, 183, #[brF n]), (false, n + 6, 183, #[atF n]), (false, n + 7, 183, #[piF n]), (false, n + 8, 183, #[seF n])]
def Ev (w : World) (n : Nat) (s : ByteArray) (a : Nat) (o : Int) (r : Bool) : Prop := ∀ x ∈ env n s a o r, w.heap[x.2.1]? = some (.cells x.2.2.2 x.2.2.1 (0, 0))
def S3 (n : Nat) : Nat → Prop := fun k => k = n + 1 ∨ k = n + 2 ∨ k = n + 3
theorem env_nd (n : Nat) (s : ByteArray) (a : Nat) (o : Int) (r : Bool) : ((env n s a o r).map (·.2.1)).Nodup := by
  simp [env, List.nodup_cons]
  try omega
theorem Ev.st {w : World} {n : Nat} {s : ByteArray} {a : Nat} {o : Int} {r : Bool} (h : Ev w n s a o r) : St (S3 n) w w (env n s a o r) :=
  ⟨But.refl _ _, h, fun x hx hr _ => by
    simp only [env, List.mem_cons, List.not_mem_nil, or_false] at hx
    rcases hx with rfl | rfl | rfl | rfl | rfl | rfl | rfl | rfl | rfl <;> simp [S3] at hr ⊢, env_nd n s a o r⟩
theorem Ev.lt {w : World} {n : Nat} {s : ByteArray} {a : Nat} {o : Int} {r : Bool} (h : Ev w n s a o r) : n + 8 < w.heap.size := (Array.getElem?_eq_some_iff.1 (h (false, n + 8, 183, #[seF n]) (by simp [env]))).1
/-- Behind a call of a closure: the parser's boxes as they are now, the other boxes as they were. -/
theorem St.closure {S : Nat → Prop} {w0 w w' : World} {n : Nat} {s : ByteArray} {a a' : Nat} {o o' : Int} {r r' : Bool} {M : List Ent} (H : St S w0 w (M ++ env n s a o r)) (hb : But (S3 n) w w') (hS : ∀ i, i < w0.heap.size → S3 n i → S i) (hE : Ev w' n s a' o' r') : St S w0 w' (M ++ env n s a' o' r') := by
  refine H.callS hb hS (by simp [env]) (fun x hx => ?_)
  rcases List.mem_append.1 hx with h | h
  · refine .inl ⟨List.mem_append_left _ h, fun hT => ?_⟩
    have hnd := H.nd
    rw [List.map_append, List.nodup_append] at hnd
    have h1 : x.2.1 ∈ M.map (·.2.1) := List.mem_map.2 ⟨x, h, rfl⟩
    have h2 : x.2.1 ∈ (env n s a o r).map (·.2.1) := by
      rcases hT with e | e | e <;> rw [e] <;> simp [env]
    exact hnd.2.2 _ h1 _ h2 rfl
  · exact .inr (hE x h)
theorem St.ev {S : Nat → Prop} {w0 w : World} {n : Nat} {s : ByteArray} {a : Nat} {o : Int} {r : Bool} {M : List Ent} (H : St S w0 w (M ++ env n s a o r)) : Ev w n s a o r := fun x hx => H.all x (List.mem_append_right _ hx)
/-- What came out agrees with what is in the boxes. -/
def Agree (res : Out) (t : Tr) (a : Nat) (o' : Int) (r : Bool) (o : Int) : Prop := match res with
  | .error p => r = false ∧ a = p
  | .ok (t', d) => r = true ∧ a = d ∧ t = t' ∧ o' = o
/-- How a closure ends. -/
def Post (n : Nat) (s : ByteArray) (o : Int) (w : World) (res : Out) (e : Ending) (w' : World) : Prop :=
  ∃ x t a' o' r', e = .returned x ∧ TrV w' (fun b => w.heap.size ≤ b) x t ∧ Ev w' n s a' o' r' ∧ But (S3 n) w w' ∧ Agree res t a' o' r' o
theorem TrV.leafV (w : World) (P : Nat → Prop) (x : S4) : TrV w P (reV 1 x (.slice none 0 0) 0 0) (leaf x) := ⟨_, [], rfl, ⟨rfl, .inl ⟨rfl, rfl⟩⟩, fun b hb => (by cases hb), rfl⟩
theorem TrV.val {w : World} {P : Nat → Prop} {x : Value} {t : Tr} (h : TrV w P x t) : ∃ a n c, x = reV t.1.k t.1.s (.slice a n c) t.1.mn t.1.mx := by
  obtain ⟨v, zs, e, o, p, k⟩ := h
  obtain ⟨a, c, rfl, _, _⟩ := owns8_val o
  exact ⟨a, _, c, e⟩
theorem tab_st {w0 w : World} {L : List Ent} {n : Nat} (h : Tab w0) (H : St (S3 n) w0 w L) (hn : 0 < n) : Tab w := h.st H (by intro k hk; simp [S3]; omega)
/-- From here on the parser's boxes may be written, and those in Q. -/
theorem St.rebaseE {S : Nat → Prop} {w0 w : World} {n : Nat} {s : ByteArray} {a : Nat} {o : Int} {r : Bool} {M : List Ent} (H : St S w0 w (M ++ env n s a o r)) (Q : Nat → Prop) (hQ : ∀ x ∈ M, Q x.2.1) : St (fun k => S3 n k ∨ Q k) w w (M ++ env n s a o r) :=
  H.rebase _ (fun x hx hr => by
    rcases List.mem_append.1 hx with h | h
    · exact .inr (hQ x h)
    · refine .inl ?_
      simp only [env, List.mem_cons, List.not_mem_nil, or_false] at h
      rcases h with rfl | rfl | rfl | rfl | rfl | rfl | rfl | rfl | rfl <;> simp [S3] at hr ⊢)
/-- What is asked of the closure for brackets. -/
def BrOk (n : Nat) (s : ByteArray) (o : Int) (br : Nat → Out) : Prop := ∀ (w : World) (a : Nat), Ev w n s a o true → Tab w → bt s a = 40 →
  Calls Tryz.prog 115 #[.pointer (some ⟨n + 2, 0, none⟩), .pointer (some ⟨n + 3, 0, none⟩), .pointer (some ⟨n, 0, none⟩), .pointer (some ⟨n + 1, 0, none⟩), .pointer (some ⟨n + 4, 0, none⟩)] w (Post n s o w (br a))
set_option maxHeartbeats 4000000 in
theorem atom_any (n : Nat) (hn : 0 < n) (s : ByteArray) (hs : s.size ≤ 256) (o : Int) (br : Nat → Out) (hbr : BrOk n s o br) (w : World) (hT : Tab w) (a : Nat) (ha : a ≤ s.size) (hE : Ev w n s a o true) :
    Calls Tryz.prog 118 #[.pointer (some ⟨n, 0, none⟩), .pointer (some ⟨n + 1, 0, none⟩), .pointer (some ⟨n + 5, 0, none⟩), .pointer (some ⟨n + 3, 0, none⟩)] w (Post n s o w (atomM br s a)) := by
  have H : St (S3 n) w w (env n s a o true) := hE.st
  unfold atomM
  generalize hc : bt s a = c
  by_cases h40 : c = 40
  · subst h40
    rw [if_pos rfl]
    replace hc := hide hc
    go_enter Tryz.func118, Tryz.ntmps118
    go_wp2_with (first | (with_reducible refine at_alloc 27 ?_; refine wl_alloc28 H ?_; clear H; intro g w' H q1 q2) | (with_reducible refine at_load 9 ?_; first | (refine wl_ld9 4 0 H rfl rfl rfl ?_)) | (with_reducible refine at_load 3 ?_; first | (refine wl_ld3 1 0 H rfl rfl rfl ?_)) | (with_reducible refine at_load 4 ?_; first | (refine wl_ld4 3 0 H rfl rfl rfl ?_)) | (with_reducible refine at_load 183 ?_; first | (refine wl_ld59 6 0 H rfl rfl rfl ?_; simp only [brF, atF, piF, seF, alF])))
    refine (byteAt_i s a _ rfl).mono ?_
    rintro e w1 ⟨rfl, rfl⟩
    rw [hc.out]
    go_wp2_with (first | (with_reducible refine at_load 9 ?_; first | (refine wl_ld9 4 0 H rfl rfl rfl ?_)) | (with_reducible refine at_load 3 ?_; first | (refine wl_ld3 1 0 H rfl rfl rfl ?_)) | (with_reducible refine at_load 4 ?_; first | (refine wl_ld4 3 0 H rfl rfl rfl ?_)) | (with_reducible refine at_load 183 ?_; first | (refine wl_ld59 6 0 H rfl rfl rfl ?_; simp only [brF, atF, piF, seF, alF])))
    have P1 := hbr w1 a (St.ev (M := [_]) H) (tab_st hT H hn) hc.out
    have hg := H.lti 0 rfl
    have hge := q1
    refine P1.mono ?_
    rintro e w2 ⟨x, t, a', o', r', rfl, T, E2, B2, A2⟩
    have W2 := St.closure (M := [_]) H B2 (fun i _ h => h) E2
    have hlt := E2.lt
    have hE8 := (St.ev (M := [_]) H).lt
    have hs1 := H.but.size
    clear H
    have H := St.rebaseE (M := [_]) W2 (fun k => k = g) (fun x hx => by simp only [List.mem_cons, List.not_mem_nil, or_false] at hx; subst hx; rfl)
    obtain ⟨va, vn, vc, hx⟩ := T.val
    subst hx
    go_wp2_with (first | (with_reducible refine at_store 27 ?_; refine wl_store28 0 H rfl rfl rfl rfl ?_; clear H; intro w' H))
    refine bodyPost_ret (results_cell0 rfl _ _ _ _ rfl (load28 (H.get 0 rfl))) rfl ?_
    refine ⟨_, t, a', o', r', rfl, ?_, St.ev (M := [_]) H, W2.but.trans H.but (fun i hi h => by rcases h with h | h; exact h; omega), A2⟩
    exact (T.kept (fun b hP hb => H.but.block b hb (fun h => by rcases h with h | h; simp only [S3] at h; omega; omega))).mono (fun b _ hP => by omega)
  · rw [if_neg h40]
    have n40 : (c == 40) = false := beq_eq_false_iff_ne.2 h40
    replace h40 := hide h40
    replace hc := hide hc
    have PS := hide (fun w hT z hz => set_any s hs a ha w hT (z := z) hz)
    generalize setR s a = r0 at PS ⊢
    obtain ⟨x, d, ok⟩ := r0
    simp only at PS ⊢
    generalize hres : (if ok = true then Except.ok (leaf x, d) else Except.error d : Out) = res
    replace hres := hide hres
    go_enter Tryz.func118, Tryz.ntmps118
    go_wp2_with (first | (with_reducible refine at_alloc 27 ?_; refine wl_alloc28 H ?_; clear H; intro g w' H q1 q2) | (with_reducible refine at_load 9 ?_; first | (refine wl_ld9 4 0 H rfl rfl rfl ?_)) | (with_reducible refine at_load 3 ?_; first | (refine wl_ld3 1 0 H rfl rfl rfl ?_)) | (with_reducible refine at_load 4 ?_; first | (refine wl_ld4 3 0 H rfl rfl rfl ?_)) | (with_reducible refine at_load 183 ?_; first | (refine wl_ld59 6 0 H rfl rfl rfl ?_; simp only [brF, atF, piF, seF, alF])) | (with_reducible refine at_store 3 ?_; first | (refine wl_setKind 0 H rfl rfl rfl ?_; clear H; intro w' H) | (refine wl_st3 1 H rfl rfl rfl ?_; clear H; intro w' H)) | (with_reducible refine at_store 4 ?_; refine wl_st4 3 H rfl rfl rfl ?_; clear H; intro w' H) | (with_reducible refine at_store 24 ?_; refine wl_setSet 0 H rfl rfl rfl ?_; clear H; intro w' H) | (with_reducible refine at_load 27 ?_; refine wl_load28 0 H rfl rfl ?_) | (with_reducible refine at_store 27 ?_; refine wl_store28 0 H rfl rfl rfl rfl ?_; clear H; intro w' H))
    refine (byteAt_i s a _ rfl).mono ?_
    rintro e w1 ⟨rfl, rfl⟩
    rw [hc.out]
    go_wp2_with (first | (with_reducible refine at_alloc 27 ?_; refine wl_alloc28 H ?_; clear H; intro g w' H q1 q2) | (with_reducible refine at_load 9 ?_; first | (refine wl_ld9 4 0 H rfl rfl rfl ?_)) | (with_reducible refine at_load 3 ?_; first | (refine wl_ld3 1 0 H rfl rfl rfl ?_)) | (with_reducible refine at_load 4 ?_; first | (refine wl_ld4 3 0 H rfl rfl rfl ?_)) | (with_reducible refine at_load 183 ?_; first | (refine wl_ld59 6 0 H rfl rfl rfl ?_; simp only [brF, atF, piF, seF, alF])) | (with_reducible refine at_store 3 ?_; first | (refine wl_setKind 0 H rfl rfl rfl ?_; clear H; intro w' H) | (refine wl_st3 1 H rfl rfl rfl ?_; clear H; intro w' H)) | (with_reducible refine at_store 4 ?_; refine wl_st4 3 H rfl rfl rfl ?_; clear H; intro w' H) | (with_reducible refine at_store 24 ?_; refine wl_setSet 0 H rfl rfl rfl ?_; clear H; intro w' H) | (with_reducible refine at_load 27 ?_; refine wl_load28 0 H rfl rfl ?_) | (with_reducible refine at_store 27 ?_; refine wl_store28 0 H rfl rfl rfl rfl ?_; clear H; intro w' H))
    refine (PS.out _ (tab_st hT H hn) _ rfl).mono ?_
    rintro e w2 ⟨rfl, b2⟩
    replace H := H.call b2 (Nat.le_refl _)
    go_wp2_with (first | (with_reducible refine at_alloc 27 ?_; refine wl_alloc28 H ?_; clear H; intro g w' H q1 q2) | (with_reducible refine at_load 9 ?_; first | (refine wl_ld9 4 0 H rfl rfl rfl ?_)) | (with_reducible refine at_load 3 ?_; first | (refine wl_ld3 1 0 H rfl rfl rfl ?_)) | (with_reducible refine at_load 4 ?_; first | (refine wl_ld4 3 0 H rfl rfl rfl ?_)) | (with_reducible refine at_load 183 ?_; first | (refine wl_ld59 6 0 H rfl rfl rfl ?_; simp only [brF, atF, piF, seF, alF])) | (with_reducible refine at_store 3 ?_; first | (refine wl_setKind 0 H rfl rfl rfl ?_; clear H; intro w' H) | (refine wl_st3 1 H rfl rfl rfl ?_; clear H; intro w' H)) | (with_reducible refine at_store 4 ?_; refine wl_st4 3 H rfl rfl rfl ?_; clear H; intro w' H) | (with_reducible refine at_store 24 ?_; refine wl_setSet 0 H rfl rfl rfl ?_; clear H; intro w' H) | (with_reducible refine at_load 27 ?_; refine wl_load28 0 H rfl rfl ?_) | (with_reducible refine at_store 27 ?_; refine wl_store28 0 H rfl rfl rfl rfl ?_; clear H; intro w' H))
    refine bodyPost_ret (results_cell0 rfl _ _ _ _ rfl (load28 (H.get 0 rfl))) rfl ?_
    refine ⟨_, leaf x, d, o, ok, rfl, TrV.leafV _ _ x, St.ev (M := [_]) H, H.but, ?_⟩
    rw [← hres.out]
    cases ok with
    | true => exact ⟨rfl, rfl, rfl, rfl⟩
    | false => exact ⟨rfl, rfl⟩
open Go.RowKit
set_option linter.unusedVariables false
set_option linter.unusedSimpArgs false

/-- How many, and how deep. -/
def Fo.sz : Fo → Nat
  | .nil => 0
  | .cons _ k r => 1 + k.sz + r.sz
def Fo.dp : Fo → Nat
  | .nil => 0
  | .cons _ k r => max (1 + k.dp) r.dp
/-- May one be, with so many members? -/
def fitN (n : Nd) (len : Nat) : Prop := (n.k ≠ 1 → n.s = noSet) ∧ (n.k = 4 → len = 1 ∧ arT n.mn n.mx = true) ∧ (n.k ≠ 4 → n.mn = 0 ∧ n.mx = 0) ∧ (n.k = 1 ∧ len = 0 ∨ n.k = 2 ∨ n.k = 3 ∨ n.k = 4)
def Fo.fit : Fo → Prop
  | .nil => True
  | .cons n k r => fitN n k.len ∧ k.fit ∧ r.fit
def szT (t : Tr) : Nat := 1 + t.2.sz
def dpT (t : Tr) : Nat := 1 + t.2.dp
def fitT (t : Tr) : Prop := fitN t.1 t.2.len ∧ t.2.fit
theorem Fo.sz_snoc (f : Fo) (t : Tr) : (f.snoc t).sz = f.sz + szT t := by
  induction f with
  | nil => simp [Fo.snoc, Fo.sz, szT]
  | cons n k r _ ih => simp [Fo.snoc, Fo.sz, ih]; omega
theorem Fo.dp_snoc (f : Fo) (t : Tr) : (f.snoc t).dp = max f.dp (dpT t) := by
  induction f with
  | nil => simp [Fo.snoc, Fo.dp, dpT]
  | cons n k r _ ih => simp [Fo.snoc, Fo.dp, ih] <;> omega
theorem Fo.fit_snoc {f : Fo} {t : Tr} (hf : f.fit) (ht : fitT t) : (f.snoc t).fit := by
  induction f with
  | nil => exact ⟨ht.1, ht.2, trivial⟩
  | cons n k r _ ih => exact ⟨hf.1, hf.2.1, ih hf.2.2⟩
theorem tog_cases (k : Int) (f : Fo) : (∃ n kids, f = .cons n kids .nil ∧ tog k f = (n, kids)) ∨ (f.len ≠ 1 ∧ tog k f = (⟨k, noSet, 0, 0⟩, f)) := by
  cases f with
  | nil => exact .inr ⟨by simp [Fo.len], rfl⟩
  | cons n kids r => cases r with
    | nil => exact .inl ⟨n, kids, rfl, rfl⟩
    | cons _ _ _ => exact .inr ⟨by simp [Fo.len], rfl⟩
/-- What comes out of pieces, atoms, brackets from a on is good. -/
def GoodP (s : ByteArray) (D a : Nat) (out : Out) : Prop := match out with
  | .error p => p ≤ s.size
  | .ok (t, d) => a < d ∧ d ≤ s.size ∧ fitT t ∧ szT t + 1 ≤ 2 * (d - a) ∧ dpT t ≤ D
/-- What comes out of sequences and alternations from a on is good. -/
def GoodA (s : ByteArray) (D a : Nat) (out : Out) : Prop := match out with
  | .error p => p ≤ s.size
  | .ok (t, d) => a ≤ d ∧ d ≤ s.size ∧ fitT t ∧ szT t ≤ 2 * (d - a) + 1 ∧ dpT t ≤ D
/-- Brackets from a place at which one stands are good. -/
def BrGood (s : ByteArray) (D : Nat) (br : Nat → Out) : Prop := ∀ a, bt s a = 40 → GoodP s D a (br a)
theorem leaf_fit (x : S4) : fitT (leaf x) := ⟨⟨fun h => (h rfl).elim, fun h => (by simp [leaf] at h), fun _ => ⟨rfl, rfl⟩, .inl ⟨rfl, rfl⟩⟩, trivial⟩
theorem atom_good {s : ByteArray} {D : Nat} {br : Nat → Out} (hD : 1 ≤ D) (hb : BrGood s D br) (a : Nat) (ha : a ≤ s.size) : GoodP s D a (atomM br s a) := by
  unfold atomM
  split
  · exact hb a (by assumption)
  · obtain ⟨o1, f1, f2, f3⟩ := set_far s a
    split
    · rename_i h
      have := f3 h
      exact ⟨this.1, this.2, leaf_fit _, by simp [szT, leaf, Fo.sz]; omega, by simp [dpT, leaf, Fo.dp]; omega⟩
    · show _ ≤ _; omega
theorem rep_fit {t : Tr} (h : fitT t) {mn mx : Int} (ht : arT mn mx = true) : fitT (rep t mn mx) :=
  ⟨⟨fun _ => rfl, fun _ => ⟨rfl, ht⟩, fun h => (h rfl).elim, .inr (.inr (.inr rfl))⟩, h.1, h.2, trivial⟩
theorem piece_good {s : ByteArray} {D : Nat} {br : Nat → Out} (hD : 1 ≤ D) (hb : BrGood s D br) (a : Nat) (ha : a ≤ s.size) : GoodP s (D + 1) a (pieceM br s a) := by
  have h1 := atom_good hD hb a ha
  unfold pieceM
  split
  · rename_i p e
    rw [e] at h1
    exact h1
  · rename_i t d e
    rw [e] at h1
    obtain ⟨g1, g2, g3, g4, g5⟩ := h1
    obtain ⟨f1, f2, f3⟩ := times_far s d g2
    split
    · rename_i h
      rcases f3 h with ⟨e1, e2⟩ | ⟨e1, e2, e3⟩
      · rw [if_neg (by rw [e1]; simp)]
        rw [e2]
        exact ⟨g1, g2, g3, g4, by omega⟩
      · rw [if_pos e1]
        refine ⟨by omega, f2, rep_fit g3 e3, ?_, ?_⟩
        · simp only [szT, rep, Fo.sz] at *; omega
        · simp only [dpT, rep, Fo.dp] at *; omega
    · exact f2
theorem seqL_good {s : ByteArray} {D : Nat} {br : Nat → Out} (hD : 1 ≤ D) (hb : BrGood s D br) (a0 : Nat) : ∀ (n : Nat) (f : Fo) (a : Nat), a0 ≤ a → a ≤ s.size → f.fit → f.sz + f.len ≤ 2 * (a - a0) → f.dp ≤ D + 1 →
    match seqL br s n f a with
    | .error p => p ≤ s.size
    | .ok (f', d) => a0 ≤ d ∧ d ≤ s.size ∧ f'.fit ∧ f'.sz + f'.len ≤ 2 * (d - a0) ∧ f'.dp ≤ D + 1
  | 0, f, a, h0, h1, h2, h3, h4 => ⟨h0, h1, h2, h3, h4⟩
  | n + 1, f, a, h0, h1, h2, h3, h4 => by
    unfold seqL
    have hp := piece_good hD hb a h1
    split
    · rename_i hs
      split at hs
      · rename_i hc
        split at hs
        · rename_i p e; rw [e] at hp; cases hs; exact hp
        · rename_i t d e
          rw [e] at hp
          obtain ⟨g1, g2, g3, g4, g5⟩ := hp
          have := seqL_good hD hb a0 n (f.snoc t) d (by omega) g2 (Fo.fit_snoc h2 g3) (by rw [Fo.sz_snoc, Fo.len_snoc]; omega) (by rw [Fo.dp_snoc]; omega)
          rw [hs] at this
          exact this
      · cases hs
    · rename_i hs
      split at hs
      · split at hs
        · cases hs
        · rename_i t d e
          rw [e] at hp
          obtain ⟨g1, g2, g3, g4, g5⟩ := hp
          have := seqL_good hD hb a0 n (f.snoc t) d (by omega) g2 (Fo.fit_snoc h2 g3) (by rw [Fo.sz_snoc, Fo.len_snoc]; omega) (by rw [Fo.dp_snoc]; omega)
          rw [hs] at this
          exact this
      · cases hs; exact ⟨h0, h1, h2, h3, h4⟩
theorem fit_of_one {n : Nd} {k : Fo} (h : (Fo.cons n k .nil).fit) : fitT (n, k) := ⟨h.1, h.2.1⟩
theorem seq_good {s : ByteArray} {D : Nat} {br : Nat → Out} (hD : 1 ≤ D) (hb : BrGood s D br) (a : Nat) (ha : a ≤ s.size) : GoodA s (D + 2) a (seqM br s a) := by
  have h := seqL_good hD hb a (s.size + 1 - a) .nil a (Nat.le_refl _) ha trivial (by simp [Fo.sz, Fo.len]) (by simp [Fo.dp])
  unfold seqM
  split
  · rename_i p e; rw [e] at h; exact h
  · rename_i f d e
    rw [e] at h
    obtain ⟨h1, h2, h3, h4, h5⟩ := h
    rcases tog_cases 2 f with ⟨n, k, rfl, e2⟩ | ⟨hl, e2⟩
    · rw [e2]
      refine ⟨h1, h2, fit_of_one h3, ?_, ?_⟩
      · simp only [szT, Fo.sz, Fo.len] at *; omega
      · simp only [dpT, Fo.dp] at *; omega
    · rw [e2]
      refine ⟨h1, h2, ⟨⟨fun _ => rfl, fun h => (by simp at h), fun _ => ⟨rfl, rfl⟩, .inr (.inl rfl)⟩, h3⟩, ?_, ?_⟩
      · simp only [szT] at *; omega
      · simp only [dpT] at *; omega
theorem altL_good {s : ByteArray} {D : Nat} {br : Nat → Out} (hD : 1 ≤ D) (hb : BrGood s D br) (a0 : Nat) : ∀ (n : Nat) (f : Fo) (a : Nat), a0 ≤ a → a ≤ s.size → f.fit → f.sz + f.len ≤ 2 * (a - a0) + 2 → f.dp ≤ D + 2 →
    match altL br s n f a with
    | .error p => p ≤ s.size
    | .ok (f', d) => a0 ≤ d ∧ d ≤ s.size ∧ f'.fit ∧ f'.sz + f'.len ≤ 2 * (d - a0) + 2 ∧ f'.dp ≤ D + 2
  | 0, f, a, h0, h1, h2, h3, h4 => ⟨h0, h1, h2, h3, h4⟩
  | n + 1, f, a, h0, h1, h2, h3, h4 => by
    unfold altL
    by_cases hc : bt s a = 124
    · have hl := bt_lt (s := s) (k := a) (by omega)
      have hp := seq_good hD hb (a + 1) (by omega)
      simp only [hc, if_true]
      generalize hq : seqM br s (a + 1) = q at hp
      cases q with
      | error p => exact hp
      | ok td =>
        obtain ⟨t, d⟩ := td
        obtain ⟨g1, g2, g3, g4, g5⟩ := hp
        exact altL_good hD hb a0 n (f.snoc t) d (by omega) g2 (Fo.fit_snoc h2 g3) (by rw [Fo.sz_snoc, Fo.len_snoc]; omega) (by rw [Fo.dp_snoc]; omega)
    · simp only [hc, if_false]
      exact ⟨h0, h1, h2, h3, h4⟩
theorem alt_good {s : ByteArray} {D : Nat} {br : Nat → Out} (hD : 1 ≤ D) (hb : BrGood s D br) (a : Nat) (ha : a ≤ s.size) : GoodA s (D + 3) a (altM br s a) := by
  have h := seq_good hD hb a ha
  unfold altM
  split
  · rename_i p e; rw [e] at h; exact h
  · rename_i t d e
    rw [e] at h
    obtain ⟨g1, g2, g3, g4, g5⟩ := h
    have h := altL_good hD hb a (s.size + 1 - d) (Fo.nil.snoc t) d g1 g2 (Fo.fit_snoc trivial g3) (by rw [Fo.sz_snoc, Fo.len_snoc]; simp [Fo.sz, Fo.len]; omega) (by rw [Fo.dp_snoc]; simp [Fo.dp]; omega)
    split
    · rename_i p e2; rw [e2] at h; exact h
    · rename_i f d2 e2
      rw [e2] at h
      obtain ⟨h1, h2, h3, h4, h5⟩ := h
      rcases tog_cases 3 f with ⟨n, k, rfl, e3⟩ | ⟨hl, e3⟩
      · rw [e3]
        refine ⟨h1, h2, fit_of_one h3, ?_, ?_⟩
        · simp only [szT, Fo.sz, Fo.len] at *; omega
        · simp only [dpT, Fo.dp] at *; omega
      · rw [e3]
        refine ⟨h1, h2, ⟨⟨fun _ => rfl, fun h => (by simp at h), fun _ => ⟨rfl, rfl⟩, .inr (.inr (.inl rfl))⟩, h3⟩, ?_, ?_⟩
        · have : f.len ≠ 1 := hl
          cases f with
          | nil => simp only [szT, Fo.sz, Fo.len] at *; omega
          | cons n k r => simp only [szT, Fo.len] at *; omega
        · simp only [dpT] at *; omega
theorem op_far (s : ByteArray) (a : Nat) (h : a < s.size) : a < (opR s a).1 ∧ (opR s a).1 ≤ s.size := by
  unfold opR
  split
  · rename_i h1
    have := bt_lt (s := s) (k := a + 1) (by omega)
    split
    · rename_i h2
      have := bt_lt (s := s) (k := a + 2) (by omega)
      simp; omega
    · simp; omega
  · simp; omega
theorem br_good (s : ByteArray) : ∀ m, BrGood s (3 * m + 1) (brM s m)
  | 0 => fun a ha => by have := bt_lt (s := s) (k := a) (by omega); show a ≤ s.size; omega
  | m + 1 => fun a ha => by
    have hl := bt_lt (s := s) (k := a) (by omega)
    obtain ⟨o1, o2⟩ := op_far s a hl
    have h := alt_good (by omega) (br_good s m) (opR s a).1 o2
    unfold brM
    split
    · split
      · rename_i p e; rw [e] at h; exact h
      · rename_i t d e
        rw [e] at h
        obtain ⟨g1, g2, g3, g4, g5⟩ := h
        split
        · rename_i h41
          have := bt_lt (s := s) (k := d) (by omega)
          exact ⟨by omega, by omega, g3, by omega, by omega⟩
        · exact g2
    · exact o2
/-- What is read may be. -/
theorem parse_good (s : ByteArray) : match parseM s with
    | .error p => p ≤ s.size
    | .ok t => fitT t ∧ szT t ≤ 2 * s.size + 1 ∧ dpT t ≤ 100 := by
  have h := alt_good (by omega) (br_good s 32) 0 (Nat.zero_le _)
  unfold parseM
  generalize altM (brM s 32) s 0 = q at h ⊢
  cases q with
  | error p => exact h
  | ok td =>
    obtain ⟨t, d⟩ := td
    obtain ⟨g1, g2, g3, g4, g5⟩ := h
    by_cases hd : d = s.size
    · simp only [hd, if_true]
      exact ⟨g3, by omega, by omega⟩
    · simp only [hd, if_false]
      exact g2
end Go.Proofs.YtnffbmipllhjdaaGreatDoor

namespace Go.Proofs.YtnffbmipllhjdaaGreatDoor
open Go.RowKit
set_option linter.unusedVariables false
set_option linter.unusedSimpArgs false

section
variable {S : Nat → Prop} {w0 w : World} {L : List Ent} {ops : Array Oper} {rest : List Oper} {a : Act} {Q : Exit → Act → World → Prop} {dst : Option Nat} {x : Operand} {ty : TypeId} {pos : String} {after : Array Edge}
theorem at_bs26 (h : wpList Tryz.prog ops Q (⟨dst, .buildSlice 25 1 #[(0, x)], ty, pos, after, none⟩ :: rest) a w) : wpList Tryz.prog ops Q (⟨dst, .buildSlice 25 1 #[(0, x)], ty, pos, after, none⟩ :: rest) a w := h
theorem wl_ldKind (i : Nat) (H : St S w0 w L) {b : Bool} {g : Nat} {n : Int} {s : S4} {l : Value} {mn mx : Int} (h : L[i]? = some (b, g, 27, reA n s l mn mx)) (hx : a.eval x = .pointer (some ⟨g, 0, none⟩)) (k : wpList Tryz.prog ops Q rest (a.put dst (.int .i64 n)) w) : wpList Tryz.prog ops Q (⟨dst, .load 3 x, ty, pos, after, none⟩ :: rest) a w := wl_ld3 i 0 H h rfl hx k
/-- A list of one pattern is made; its row is a box that is not written. -/
theorem wl_bs26 (H : St S w0 w L) {k : Int} {s : S4} {v : Value} {mn mx : Int} (hx : a.eval x = reV k s v mn mx)
    (h : ∀ b w', St S w0 w' ((false, b, 27, reA k s v mn mx) :: L) → w.heap.size ≤ b → w0.heap.size ≤ b → wpList Tryz.prog ops Q rest (a.put dst (.slice (some ⟨b, 0, none⟩) 1 1)) w') : wpList Tryz.prog ops Q (⟨dst, .buildSlice 25 1 #[(0, x)], ty, pos, after, none⟩ :: rest) a w := by
  refine wpList_plain rfl fun K hK => ?_
  unfold Oper.wp execOp
  simp only [List.map_toArray, List.map_cons, List.map_nil, hx, Sem.run_bind, run_bs26, Result.andThen_ok, Sem.run_pure]
  have H1 := H.alloc 27 (reA k s v mn mx)
  refine hK _ _ (h _ _ ⟨H1.but, fun e he => ?_, fun e he hr => ?_, H1.nd⟩ (Nat.le_refl _) H.but.size)
  · rcases List.mem_cons.1 he with rfl | he
    · exact H1.all (true, w.heap.size, 27, reA k s v mn mx) (by simp)
    · exact H1.all e (by simp [he])
  · rcases List.mem_cons.1 he with rfl | he
    · cases hr
    · exact H1.ok e (by simp [he]) hr
end
/-- A row of one pattern. -/
theorem owns_one {w : World} {b : Nat} {k : Int} {s : S4} {v : Value} {mn mx : Int} (h : w.heap[b]? = some (.cells (reA k s v mn mx) 27 (0, 0))) : w.ownsRow 0 27 8 (.slice (some ⟨b, 0, none⟩) 1 1) 1 (reA k s v mn mx).toList :=
  ⟨rfl, .inr ⟨b, 1, _, rfl, Nat.zero_le _, h, Nat.le_refl _, by unfold maxLen; omega, rfl, rfl⟩⟩
theorem TrV.repV {w : World} {P : Nat → Prop} {t : Tr} {v : Value} (T : TrV w P (reV t.1.k t.1.s v t.1.mn t.1.mx) t) {b : Nat} (h : w.heap[b]? = some (.cells (reA t.1.k t.1.s v t.1.mn t.1.mx) 27 (0, 0))) (hb : P b) (mn mx : Int) : TrV w P (reV 4 noSet (.slice (some ⟨b, 0, none⟩) 1 1) mn mx) (rep t mn mx) := by
  obtain ⟨v', zs, e, o, p, k⟩ := T
  have e2 : v = v' := by simpa [reV, reA] using e
  subst e2
  refine ⟨_, _, rfl, owns_one h, fun x hx => ?_, ⟨v, [], zs, by simp, o, p, k, rfl⟩⟩
  have : b = x := by simpa [Value.ownBlock] using hx
  rw [← this]; exact hb
def pieceE (s : ByteArray) (r : Out) : Out := match r with
  | .error p => .error p
  | .ok (t, d) => if (timesR s d).2.2 = true then (if (timesR s d).1.1 = 4 then .ok (rep t (timesR s d).1.2.1 (timesR s d).1.2.2, (timesR s d).2.1) else .ok (t, (timesR s d).2.1)) else .error (timesR s d).2.1
theorem pieceM_eq (br : Nat → Out) (s : ByteArray) (a : Nat) : pieceM br s a = pieceE s (atomM br s a) := rfl
set_option maxHeartbeats 8000000 in
theorem piece_any (n : Nat) (hn : 0 < n) (s : ByteArray) (hs : s.size ≤ 256) (o : Int) (br : Nat → Out) (hbr : BrOk n s o br) (D : Nat) (hD : 1 ≤ D) (hg : BrGood s D br) (w : World) (hT : Tab w) (a : Nat) (ha : a ≤ s.size) (hE : Ev w n s a o true) :
    Calls Tryz.prog 120 #[.pointer (some ⟨n + 6, 0, none⟩), .pointer (some ⟨n + 3, 0, none⟩), .pointer (some ⟨n, 0, none⟩), .pointer (some ⟨n + 1, 0, none⟩)] w (Post n s o w (pieceM br s a)) := by
  have H : St (S3 n) w w (env n s a o true) := hE.st
  rw [pieceM_eq]
  have PA := hide (fun w hT hE => atom_any n hn s hs o br hbr w hT a ha hE)
  have gA := atom_good hD hg a ha
  generalize atomM br s a = rA at PA gA ⊢
  replace hbr := hide hbr
  replace hg := hide hg
  generalize hres : pieceE s rA = res
  replace hres := hide hres
  go_enter Tryz.func120, Tryz.ntmps120
  go_wp2_with (first | (with_reducible refine at_alloc 27 ?_; refine wl_alloc28 H ?_; clear H; intro g w' H q1 q2) | (with_reducible refine at_load 9 ?_; first | (refine wl_ld9 4 0 H rfl rfl rfl ?_)) | (with_reducible refine at_load 3 ?_; first | (refine wl_ld3 1 0 H rfl rfl rfl ?_)) | (with_reducible refine at_load 4 ?_; first | (refine wl_ld4 3 0 H rfl rfl rfl ?_)) | (with_reducible refine at_load 183 ?_; first | (refine wl_ld59 7 0 H rfl rfl rfl ?_; simp only [brF, atF, piF, seF, alF])))
  have P1 := PA.out _ (tab_st hT H hn) (St.ev (M := [_]) H)
  have hgl := H.lti 0 rfl
  have hge := q1
  have hE8 := (St.ev (M := [_]) H).lt
  have hs1 := H.but.size
  refine P1.mono ?_
  rintro e w2 ⟨x, t, a', o', r', rfl, T, E2, B2, A2⟩
  have W2 := St.closure (M := [_]) H B2 (fun i _ h => h) E2
  have hs2 := B2.size
  have hT2 := hide (tab_st hT W2 hn)
  clear H P1 PA
  have H := St.rebaseE (M := [_]) W2 (fun k => k = g) (fun x hx => by simp only [List.mem_cons, List.not_mem_nil, or_false] at hx; subst hx; rfl)
  obtain ⟨va, vn, vc, hx⟩ := T.val
  subst hx
  have keep : Hid (∀ w', But (fun k => S3 n k ∨ k = g) w2 w' → TrV w' (fun b => w.heap.size ≤ b ∧ b < w2.heap.size) (reV t.1.k t.1.s (.slice va vn vc) t.1.mn t.1.mx) t) := fun w' hb =>
    ((T.mono (P' := fun b => (w.heap.size ≤ b ∧ b < w2.heap.size) ∧ b ≠ g ∧ ¬ S3 n b) (fun b hb hP => by simp only [S3]; omega)).kept (fun b hP hl => hb.block b hl (fun h => by rcases h with h | h; exact hP.2.2 h; exact hP.2.1 h))).mono (fun b _ hP => hP.1)
  have fin : Hid (∀ w', But (fun k => S3 n k ∨ k = g) w2 w' → But (S3 n) w w') := fun w' hb => W2.but.trans hb (fun i hi h => by rcases h with h | h; exact h; omega)
  clear T B2 E2 W2
  cases rA with
  | error p =>
    obtain ⟨rfl, rfl⟩ := A2
    subst hres
    go_wp2_with (first | (with_reducible refine at_alloc 27 ?_; refine wl_alloc28 H ?_; clear H; intro g5 w' H q1 q2) | (with_reducible refine at_load 9 ?_; first | (refine wl_ld9 5 0 H rfl rfl rfl ?_)) | (with_reducible refine at_load 3 ?_; first | (refine wl_ld3 2 0 H rfl rfl rfl ?_)) | (with_reducible refine at_load 4 ?_; first | (refine wl_ld4 4 0 H rfl rfl rfl ?_)) | (with_reducible refine at_load 183 ?_; first | (refine wl_ld59 8 0 H rfl rfl rfl ?_; simp only [brF, atF, piF, seF, alF])) | (with_reducible refine at_load 27 ?_; refine wl_load28 0 H rfl rfl ?_) | (with_reducible refine at_store 27 ?_; first | (refine wl_store28 0 H rfl rfl rfl rfl ?_; clear H; intro w' H) | (refine wl_store28 1 H rfl rfl rfl rfl ?_; clear H; intro w' H)))
    refine bodyPost_ret (results_cell0 rfl _ _ _ _ rfl (load28 (H.get 1 rfl))) rfl ?_
    exact ⟨_, t, a', o', false, rfl, (keep.out _ H.but).mono (fun b _ h => h.1), St.ev (M := [_, _]) H, fin.out _ H.but, ⟨rfl, rfl⟩⟩
  | ok td =>
    obtain ⟨t', d⟩ := td
    obtain ⟨rfl, rfl, rfl, rfl⟩ := A2
    obtain ⟨c1, c2, c3, c4, c5⟩ := gA
    replace c3 := hide c3
    replace c4 := hide c4
    replace c5 := hide c5
    have PT := hide (fun w z hz => times_any s hs a' c2 w (z := z) hz)
    simp only [pieceE] at hres
    generalize timesR s a' = r0 at PT hres
    obtain ⟨⟨tk, tm, tx⟩, d2, ok2⟩ := r0
    simp only at PT hres
    go_wp2_with (first | (with_reducible refine at_alloc 27 ?_; refine wl_alloc28 H ?_; clear H; intro g6 w' H q1 q2) | (with_reducible refine at_load 9 ?_; first | (refine wl_ld9 5 0 H rfl rfl rfl ?_) | (refine wl_ld9 6 0 H rfl rfl rfl ?_)) | (with_reducible refine at_load 3 ?_; first | (refine wl_ld3 2 0 H rfl rfl rfl ?_) | (refine wl_ld3 3 0 H rfl rfl rfl ?_)) | (with_reducible refine at_load 4 ?_; first | (refine wl_ld4 4 0 H rfl rfl rfl ?_) | (refine wl_ld4 5 0 H rfl rfl rfl ?_)) | (with_reducible refine at_load 183 ?_; first | (refine wl_ld59 8 0 H rfl rfl rfl ?_; simp only [brF, atF, piF, seF, alF]) | (refine wl_ld59 9 0 H rfl rfl rfl ?_; simp only [brF, atF, piF, seF, alF])) | (with_reducible refine at_load 27 ?_; refine wl_load28 0 H rfl rfl ?_) | (with_reducible refine at_store 27 ?_; first | (refine wl_store28 0 H rfl rfl rfl rfl ?_; clear H; intro w' H) | (refine wl_store28 1 H rfl rfl rfl rfl ?_; clear H; intro w' H)))
    refine (PT.out _ _ rfl).mono ?_
    rintro e w3 ⟨rfl, b3⟩
    replace H := H.call b3 (Nat.le_refl _)
    by_cases h4 : tk = 4
    · subst h4
      go_wp2_with (first | (with_reducible refine at_load 3 ?_; refine wl_ldKind 0 H rfl rfl ?_) | (with_reducible refine at_load 9 ?_; first | (refine wl_ld9 6 0 H rfl rfl rfl ?_)) | (with_reducible refine at_load 3 ?_; first | (refine wl_ld3 3 0 H rfl rfl rfl ?_)) | (with_reducible refine at_load 4 ?_; first | (refine wl_ld4 5 0 H rfl rfl rfl ?_)) | (with_reducible refine at_load 183 ?_; first | (refine wl_ld59 9 0 H rfl rfl rfl ?_; simp only [brF, atF, piF, seF, alF])) | (with_reducible refine at_store 3 ?_; first | (refine wl_st3 3 H rfl rfl rfl ?_; clear H; intro w' H)) | (with_reducible refine at_store 4 ?_; refine wl_st4 5 H rfl rfl rfl ?_; clear H; intro w' H) | (with_reducible refine at_load 27 ?_; first | (refine wl_load28 2 H rfl rfl ?_) | (refine wl_load28 1 H rfl rfl ?_)) | (with_reducible refine at_bs26 ?_; refine wl_bs26 H rfl ?_; clear H; intro b w' H u1 u2) | (with_reducible refine at_store 25 ?_; refine wl_setL 1 H rfl rfl rfl ?_; clear H; intro w' H) | (with_reducible refine at_store 27 ?_; first | (refine wl_store28 0 H rfl rfl rfl rfl ?_; clear H; intro w' H) | (refine wl_store28 3 H rfl rfl rfl rfl ?_; clear H; intro w' H)))
      have hbb := H.get 0 rfl
      refine bodyPost_ret (results_cell0 rfl _ _ _ _ rfl (load28 (H.get 3 rfl))) rfl ?_
      refine ⟨_, rep t tm tx, d2, o', ok2, rfl, TrV.repV ((keep.out _ H.but).mono (fun b _ h => h.1)) hbb (by omega) tm tx, St.ev (M := [_, _, _, _]) H, fin.out _ H.but, ?_⟩
      rw [← hres.out]
      cases ok2 with
      | true => exact ⟨rfl, rfl, by simp, rfl⟩
      | false => exact ⟨rfl, rfl⟩
    · have n4 : (tk == 4) = false := beq_eq_false_iff_ne.2 h4
      replace h4 := hide h4
      go_wp2_with (first | (with_reducible refine at_load 3 ?_; refine wl_ldKind 0 H rfl rfl ?_) | (with_reducible refine at_load 9 ?_; first | (refine wl_ld9 6 0 H rfl rfl rfl ?_)) | (with_reducible refine at_load 3 ?_; first | (refine wl_ld3 3 0 H rfl rfl rfl ?_)) | (with_reducible refine at_load 4 ?_; first | (refine wl_ld4 5 0 H rfl rfl rfl ?_)) | (with_reducible refine at_load 183 ?_; first | (refine wl_ld59 9 0 H rfl rfl rfl ?_; simp only [brF, atF, piF, seF, alF])) | (with_reducible refine at_store 3 ?_; first | (refine wl_st3 3 H rfl rfl rfl ?_; clear H; intro w' H)) | (with_reducible refine at_store 4 ?_; refine wl_st4 5 H rfl rfl rfl ?_; clear H; intro w' H) | (with_reducible refine at_load 27 ?_; refine wl_load28 1 H rfl rfl ?_) | (with_reducible refine at_store 27 ?_; first | (refine wl_store28 0 H rfl rfl rfl rfl ?_; clear H; intro w' H) | (refine wl_store28 2 H rfl rfl rfl rfl ?_; clear H; intro w' H)))
      refine bodyPost_ret (results_cell0 rfl _ _ _ _ rfl (load28 (H.get 2 rfl))) rfl ?_
      refine ⟨_, t, d2, o', ok2, rfl, (keep.out _ H.but).mono (fun b _ h => h.1), St.ev (M := [_, _, _]) H, fin.out _ H.but, ?_⟩
      rw [← hres.out, if_neg h4.out]
      cases ok2 with
      | true => exact ⟨rfl, rfl, rfl, rfl⟩
      | false => exact ⟨rfl, rfl⟩
open Go.RowKit
set_option linter.unusedVariables false
set_option linter.unusedSimpArgs false

/-- How much is left to read. -/
def muP (s : ByteArray) (n : Nat) (w : World) : Nat := okN ((w.cell? ⟨n + 3, 0, none⟩).getD undef) * (s.size + 2 - (intOf ((w.cell? ⟨n + 1, 0, none⟩).getD undef)).toNat)
theorem muP_of {s : ByteArray} {n : Nat} {w : World} {a : Nat} {o : Int} {r : Bool} (h : Ev w n s a o r) : muP s n w = okN (.bool r) * (s.size + 2 - a) := by
  have c1 : w.cell? ⟨n + 3, 0, none⟩ = some (.bool r) := by rw [cell_of_row w (n + 3) 0 _ 4 (0, 0) (h (true, n + 3, 4, #[.bool r]) (by simp [env]))]; rfl
  have c2 : w.cell? ⟨n + 1, 0, none⟩ = some (.int .i64 (a : Int)) := by rw [cell_of_row w (n + 1) 0 _ 3 (0, 0) (h (true, n + 1, 3, #[.int .i64 (a : Int)]) (by simp [env]))]; rfl
  unfold muP
  rw [c1, c2]
  simp [intOf]
/-- What holds between the rounds: what is still to be read comes to R. -/
def SqI (L : Nat → Fo → Nat → Except Nat (Fo × Nat)) (s : ByteArray) (R : Except Nat (Fo × Nat)) (f : Fo) (a : Nat) (o' o : Int) (r : Bool) : Prop :=
  (r = true → ∃ N, s.size - a < N ∧ L N f a = R ∧ o' = o) ∧ (r = false → R = .error a)
def togE (k : Int) (r : Except Nat (Fo × Nat)) : Out := match r with
  | .error p => .error p
  | .ok (f, d) => .ok (tog k f, d)
theorem seqM_eq (br : Nat → Out) (s : ByteArray) (a : Nat) : seqM br s a = togE 2 (seqL br s (s.size + 1 - a) .nil a) := rfl
theorem SqI.agree {L : Nat → Fo → Nat → Except Nat (Fo × Nat)} {s : ByteArray} {R : Except Nat (Fo × Nat)} {f : Fo} {a : Nat} {o' o : Int} {r : Bool} (h : SqI L s R f a o' o r) (k : Int) (he : r = true → R = .ok (f, a)) : Agree (togE k R) (tog k f) a o' r o := by
  cases r with
  | false => rw [h.2 rfl]; exact ⟨rfl, rfl⟩
  | true => obtain ⟨N, _, _, e⟩ := h.1 rfl; rw [he rfl]; exact ⟨rfl, rfl, rfl, e⟩
theorem blocks_lt {n g : Nat} {s : ByteArray} {a : Nat} {o : Int} {r : Bool} {e1 : Ent} (h1 : e1.2.1 = g) (hg : n + 8 < g) : ∀ e ∈ [e1] ++ env n s a o r, e.2.1 < g + 1 := fun e he => by
  simp only [env, List.cons_append, List.nil_append, List.mem_cons, List.not_mem_nil, or_false] at he
  rcases he with rfl | rfl | rfl | rfl | rfl | rfl | rfl | rfl | rfl | rfl <;> first | omega | (simp only; omega)
set_option maxHeartbeats 8000000 in
theorem seq_any (n : Nat) (hn : 0 < n) (s : ByteArray) (hs : s.size ≤ 256) (o : Int) (br : Nat → Out) (hbr : BrOk n s o br) (D : Nat) (hD : 1 ≤ D) (hg : BrGood s D br) (w : World) (hT : Tab w) (a : Nat) (ha : a ≤ s.size) (hE : Ev w n s a o true) :
    Calls Tryz.prog 122 #[.pointer (some ⟨n + 3, 0, none⟩), .pointer (some ⟨n + 1, 0, none⟩), .pointer (some ⟨n, 0, none⟩), .pointer (some ⟨n + 7, 0, none⟩)] w (Post n s o w (seqM br s a)) := by
  have H : St (S3 n) w w (env n s a o true) := hE.st
  rw [seqM_eq]
  generalize hR : seqL br s (s.size + 1 - a) .nil a = R
  have PP := hide (fun a ha w hT hE => piece_any n hn s hs o br hbr D hD hg w hT a ha hE)
  have GP := hide (fun a ha => piece_good hD hg a ha)
  have hE8 := hE.lt
  have hI0 : Hid (SqI (seqL br s) s R .nil a o o true) := ⟨fun _ => ⟨_, by omega, hR, rfl⟩, fun h => (by cases h)⟩
  replace hR := hide hR
  replace hbr := hide hbr
  replace hg := hide hg
  go_enter Tryz.func122, Tryz.ntmps122
  go_wp2_with (first | (with_reducible refine at_alloc 27 ?_; refine wl_alloc28 H ?_; clear H; intro g w' H q1 q2))
  have hsz := H.lti 0 rfl
  go_loopw [5] (fun l wr => ∃ f a' o' r, Hid (St (S3 n) w wr ([(true, g, 27, reA 0 noSet (.slice none 0 0) 0 0)] ++ env n s a' o' r)) ∧ Hid (Rw wr (g + 1) l f) ∧ Hid (SqI (seqL br s) s R f a' o' o r) ∧ a' ≤ s.size ∧ Hid ((r = true → f.len ≤ a') ∧ f.len ≤ s.size + 1)) (fun _ wr => muP s n wr)
  case atStart => exact ⟨.nil, a, o, true, H, Rw.start _ _, hI0, ha, ⟨fun _ => Nat.zero_le _, Nat.zero_le _⟩⟩
  case round =>
    clear H hsz
    obtain ⟨f, a', o', r, H1, R1, hI, ha', hf⟩ := hrel
    have H := H1.out
    clear H1
    have hgl := H.lti 0 rfl
    obtain ⟨ra, rc, hv, -, -⟩ : ∃ x c, u5 = .slice x f.len c ∧ True ∧ True := by
      obtain ⟨xs, ro, _⟩ := R1.out
      obtain ⟨x, c, e, _, _⟩ := owns8_val ro
      exact ⟨x, c, e, trivial, trivial⟩
    subst hv
    generalize hv : Value.slice ra f.len rc = v at *
    have cA := H.cell 1 0 rfl (v := .int .i64 (a' : Int)) rfl
    have cR := H.cell 3 0 rfl (v := .bool r) rfl
    have cS := H.cell 4 0 rfl (v := .string s) rfl
    by_cases hc : r = true ∧ a' < s.size ∧ bt s a' ≠ 124 ∧ bt s a' ≠ 41
    · obtain ⟨rfl, hlt, n124, n41⟩ := hc
      have i1 : (a' : Int) < (s.size : Int) := by omega
      have bk := bt_eq hlt
      have t1 : (((s[a']'hlt).toNat : Int) != 124) = true := by rw [bk]; simpa using n124
      have t2 : (((s[a']'hlt).toNat : Int) != 41) = true := by rw [bk]; simpa using n41
      obtain ⟨N, hN, hL, ho⟩ := hI.out.1 rfl
      subst ho
      obtain ⟨m, rfl⟩ : ∃ m, N = m + 1 := ⟨N - 1, by omega⟩
      rw [seqL, if_pos ⟨hlt, n124, n41⟩] at hL
      have P1 := hide (PP.out a' ha' wr)
      have G1 := GP.out a' ha'
      generalize pieceM br s a' = rp at P1 G1 hL
      replace n124 := hide n124
      replace n41 := hide n41
      replace hL := hide hL
      replace bk := hide bk
      have mu1 := hide (muP_of (St.ev (M := [_]) H))
      have hf1 := hf.out.1 rfl
      clear hI PP GP hf
      go_wp2_with (first | (with_reducible refine at_load 9 ?_; first | (refine wl_ld9 4 0 H rfl rfl rfl ?_)) | (with_reducible refine at_load 3 ?_; first | (refine wl_ld3 1 0 H rfl rfl rfl ?_)) | (with_reducible refine at_load 4 ?_; first | (refine wl_ld4 3 0 H rfl rfl rfl ?_)) | (with_reducible refine at_load 183 ?_; first | (refine wl_ld59 5 0 H rfl rfl rfl ?_; simp only [brF, atF, piF, seF, alF]) | (refine wl_ld59 6 0 H rfl rfl rfl ?_; simp only [brF, atF, piF, seF, alF]) | (refine wl_ld59 7 0 H rfl rfl rfl ?_; simp only [brF, atF, piF, seF, alF]) | (refine wl_ld59 8 0 H rfl rfl rfl ?_; simp only [brF, atF, piF, seF, alF]) | (refine wl_ld59 9 0 H rfl rfl rfl ?_; simp only [brF, atF, piF, seF, alF])))
      refine (P1.out (tab_st hT H hn) (St.ev (M := [_]) H)).mono ?_
      rintro e w3 ⟨x, t, a2, o2, r2, rfl, T, E3, B3, A3⟩
      have R3 := hide (R1.out.kept (w' := w3) (fun b hb hl => B3.block b hl (fun h => by simp only [S3] at h; omega)))
      have hs3 := B3.size
      have hown : ∀ k, v.ownBlock = some k → k < wr.heap.size := fun k hk => (R1.out.lt hk).2
      replace H := St.closure (M := [_]) H B3 (fun i _ h => h) E3
      obtain ⟨va, vn, vc, hx⟩ := T.val
      subst hx
      clear cA cR cS P1
      have facts : a2 ≤ s.size ∧ ((r2 = true → (f.snoc t).len ≤ a2) ∧ (f.snoc t).len ≤ s.size + 1) ∧ okN (.bool r2) * (s.size + 2 - a2) < s.size + 2 - a' ∧ SqI (seqL br s) s R (f.snoc t) a2 o2 o' r2 := by
        cases rp with
        | error p =>
          obtain ⟨rfl, rfl⟩ := A3
          refine ⟨G1, ⟨fun h => (by cases h), by rw [Fo.len_snoc]; omega⟩, by simp [okN]; omega, fun h => (by cases h), fun _ => hL.out.symm⟩
        | ok td =>
          obtain ⟨t', d⟩ := td
          obtain ⟨rfl, rfl, rfl, rfl⟩ := A3
          obtain ⟨g1, g2, -⟩ := G1
          exact ⟨g2, ⟨fun _ => by rw [Fo.len_snoc]; omega, by rw [Fo.len_snoc]; omega⟩, by simp [okN]; omega, fun _ => ⟨m, by omega, hL.out, rfl⟩, fun h => (by cases h)⟩
      obtain ⟨k1, k2, k3, k4⟩ := facts
      replace k2 := hide k2
      replace k3 := hide k3
      replace k4 := hide k4
      go_wp2_with (first | (with_reducible refine at_snoc ?_; refine wl_snoc (L := [_] ++ env n s a2 o2 r2) H R3.out T (fun _ => rfl) (fun _ => rfl) rfl hown (by omega) hs3 (by omega) (blocks_lt rfl (by omega)) (by omega) ?_; clear H; intro u v2 w' H R4 hz))
      go_roundw
      case rel => exact ⟨f.snoc t, a2, o2, r2, H, R4, k4, k1, k2⟩
      case measure =>
        show muP s n _ < muP s n wr
        rw [muP_of (St.ev (M := [_]) H), mu1.out]
        have := k3.out; simpa [okN] using this
    · have hend : r = true → R = .ok (f, a') := fun hr => by
        obtain ⟨N, hN, hL, _⟩ := hI.out.1 hr
        obtain ⟨m, rfl⟩ : ∃ m, N = m + 1 := ⟨N - 1, by omega⟩
        rw [← hL, seqL, if_neg (fun h => hc ⟨hr, h⟩)]
      replace hend := hide hend
      have hf2 := hf.out.2
      have TG := hide (fun xs ro rk => together_any 2 f v wr (fun b => g + 1 ≤ b) xs ro (fun b hb => (R1.out.lt hb).1) rk)
      clear PP GP hf
      cases r with
      | false =>
        clear hc
        go_wp2_with fail
        obtain ⟨xs, ro, rk⟩ := R1.out
        refine (TG.out xs (owns8_mono ro (Nat.zero_le _)) (rk.mono (fun b _ h => h.1))).mono ?_
        rintro e w4 ⟨x, rfl, T4, b4⟩
        have W4 := H.call b4 (Nat.le_refl _)
        clear H TG ro rk
        have H := St.rebaseE (M := [_]) W4 (fun k => k = g) (fun x hx => by simp only [List.mem_cons, List.not_mem_nil, or_false] at hx; subst hx; rfl)
        obtain ⟨va, vn, vc, hx⟩ := T4.val
        subst hx
        clear cA cR cS
        go_wp2_with (first | (with_reducible refine at_store 27 ?_; refine wl_store28 0 H rfl rfl rfl rfl ?_; clear H; intro w' H))
        refine bodyPost_ret (results_cell0 rfl _ _ _ _ rfl (load28 (H.get 0 rfl))) rfl ?_
        refine ⟨_, tog 2 f, a', o', _, rfl, ?_, St.ev (M := [_]) H, W4.but.trans H.but (fun i hi h => by rcases h with h | h; exact h; omega), hI.out.agree 2 (fun h => hend.out (by first | exact h | trivial))⟩
        exact (T4.kept (fun b hP hb => H.but.block b hb (fun h => by rcases h with h | h; simp only [S3] at h; omega; omega))).mono (fun b _ hP => by omega)
      | true =>
        by_cases hlt : a' < s.size
        · have i1 : (a' : Int) < (s.size : Int) := by omega
          have bk := bt_eq hlt
          by_cases h124 : bt s a' = 124
          · have t1 : (((s[a']'hlt).toNat : Int) != 124) = false := by rw [bk, h124]; rfl
            replace h124 := hide h124
            replace bk := hide bk
            replace hc := hide hc
            go_wp2_with fail
            obtain ⟨xs, ro, rk⟩ := R1.out
            refine (TG.out xs (owns8_mono ro (Nat.zero_le _)) (rk.mono (fun b _ h => h.1))).mono ?_
            rintro e w4 ⟨x, rfl, T4, b4⟩
            have W4 := H.call b4 (Nat.le_refl _)
            clear H TG ro rk
            have H := St.rebaseE (M := [_]) W4 (fun k => k = g) (fun x hx => by simp only [List.mem_cons, List.not_mem_nil, or_false] at hx; subst hx; rfl)
            obtain ⟨va, vn, vc, hx⟩ := T4.val
            subst hx
            clear cA cR cS
            go_wp2_with (first | (with_reducible refine at_store 27 ?_; refine wl_store28 0 H rfl rfl rfl rfl ?_; clear H; intro w' H))
            refine bodyPost_ret (results_cell0 rfl _ _ _ _ rfl (load28 (H.get 0 rfl))) rfl ?_
            refine ⟨_, tog 2 f, a', o', _, rfl, ?_, St.ev (M := [_]) H, W4.but.trans H.but (fun i hi h => by rcases h with h | h; exact h; omega), hI.out.agree 2 (fun h => hend.out (by first | exact h | trivial))⟩
            exact (T4.kept (fun b hP hb => H.but.block b hb (fun h => by rcases h with h | h; simp only [S3] at h; omega; omega))).mono (fun b _ hP => by omega)
          · have h41 : bt s a' = 41 := Classical.byContradiction fun h => hc ⟨rfl, hlt, h124, h⟩
            have t1 : (((s[a']'hlt).toNat : Int) != 124) = true := by rw [bk]; simpa using h124
            have t2 : (((s[a']'hlt).toNat : Int) != 41) = false := by rw [bk, h41]; rfl
            replace h124 := hide h124
            replace h41 := hide h41
            replace bk := hide bk
            replace hc := hide hc
            go_wp2_with fail
            obtain ⟨xs, ro, rk⟩ := R1.out
            refine (TG.out xs (owns8_mono ro (Nat.zero_le _)) (rk.mono (fun b _ h => h.1))).mono ?_
            rintro e w4 ⟨x, rfl, T4, b4⟩
            have W4 := H.call b4 (Nat.le_refl _)
            clear H TG ro rk
            have H := St.rebaseE (M := [_]) W4 (fun k => k = g) (fun x hx => by simp only [List.mem_cons, List.not_mem_nil, or_false] at hx; subst hx; rfl)
            obtain ⟨va, vn, vc, hx⟩ := T4.val
            subst hx
            clear cA cR cS
            go_wp2_with (first | (with_reducible refine at_store 27 ?_; refine wl_store28 0 H rfl rfl rfl rfl ?_; clear H; intro w' H))
            refine bodyPost_ret (results_cell0 rfl _ _ _ _ rfl (load28 (H.get 0 rfl))) rfl ?_
            refine ⟨_, tog 2 f, a', o', _, rfl, ?_, St.ev (M := [_]) H, W4.but.trans H.but (fun i hi h => by rcases h with h | h; exact h; omega), hI.out.agree 2 (fun h => hend.out (by first | exact h | trivial))⟩
            exact (T4.kept (fun b hP hb => H.but.block b hb (fun h => by rcases h with h | h; simp only [S3] at h; omega; omega))).mono (fun b _ hP => by omega)
        · have i1 : ¬ ((a' : Int) < (s.size : Int)) := by omega
          clear hc
          go_wp2_with fail
          obtain ⟨xs, ro, rk⟩ := R1.out
          refine (TG.out xs (owns8_mono ro (Nat.zero_le _)) (rk.mono (fun b _ h => h.1))).mono ?_
          rintro e w4 ⟨x, rfl, T4, b4⟩
          have W4 := H.call b4 (Nat.le_refl _)
          clear H TG ro rk
          have H := St.rebaseE (M := [_]) W4 (fun k => k = g) (fun x hx => by simp only [List.mem_cons, List.not_mem_nil, or_false] at hx; subst hx; rfl)
          obtain ⟨va, vn, vc, hx⟩ := T4.val
          subst hx
          clear cA cR cS
          go_wp2_with (first | (with_reducible refine at_store 27 ?_; refine wl_store28 0 H rfl rfl rfl rfl ?_; clear H; intro w' H))
          refine bodyPost_ret (results_cell0 rfl _ _ _ _ rfl (load28 (H.get 0 rfl))) rfl ?_
          refine ⟨_, tog 2 f, a', o', _, rfl, ?_, St.ev (M := [_]) H, W4.but.trans H.but (fun i hi h => by rcases h with h | h; exact h; omega), hI.out.agree 2 (fun h => hend.out (by first | exact h | trivial))⟩
          exact (T4.kept (fun b hP hb => H.but.block b hb (fun h => by rcases h with h | h; simp only [S3] at h; omega; omega))).mono (fun b _ hP => by omega)
open Go.RowKit
set_option linter.unusedVariables false
set_option linter.unusedSimpArgs false

theorem wl_st3b {S : Nat → Prop} {w0 w : World} {L : List Ent} {ops : Array Oper} {rest : List Oper} {a : Act} {Q : Exit → Act → World → Prop} {x y : Operand} {ty : TypeId} {pos : String} {after : Array Edge} (i : Nat) (H : St S w0 w L) {g : Nat} {u : Value} {v : Int} (h : L[i]? = some (true, g, 3, #[u])) (hx : a.eval x = .pointer (some ⟨g, 0, none⟩)) (hy : a.eval y = .int .i64 v)
    (k : ∀ w', St S w0 w' (L.set i (true, g, 3, #[.int .i64 v])) → But (fun k => k = g) w w' → wpList Tryz.prog ops Q rest a w') : wpList Tryz.prog ops Q (⟨none, .store 3 x y, ty, pos, after, none⟩ :: rest) a w := by
  have H2 := H.rebase (fun k => k = g ∨ ∃ x ∈ L, x.1 = true ∧ x.2.1 = k ∧ k ≠ g) (fun x hx hr => by
    by_cases e : x.2.1 = g
    · exact .inl e
    · exact .inr ⟨x, hx, hr, rfl, e⟩)
  refine wpList_plain rfl fun K hK => ?_
  have hgt := H.get i h
  have hc : w.cell? ⟨g, 0, none⟩ = some u := H.cell i 0 h rfl
  have hf := H.fz i 0 h
  have hst : (storeVar 3 ⟨g, 0, none⟩ (.int .i64 v)).run Tryz.prog w = .ok () (w.setCell ⟨g, 0, none⟩ (.int .i64 v)) := by
    have e : (storeCells ⟨g, 0, none⟩ [.int .i64 v]).run Tryz.prog w = .ok () (w.setCell ⟨g, 0, none⟩ (.int .i64 v)) := by simp [storeCells, go_sem, stored, hc, hf]
    unfold storeVar
    have e4 : (Value.int IntKind.i64 v).cells = #[.int .i64 v] := rfl
    simp only [Sem.run_bind, one3, Result.andThen_ok, e4]
    simpa using e
  unfold Oper.wp execOp
  simp only [hx, hy, Instr.storeAt, Instr.sureAddr, Sem.run_bind, Sem.run_pure, Result.andThen_ok, hst]
  refine hK _ _ (k _ (H.setCell i h 0 (.int .i64 v)) ?_)
  rw [setCell_eq_setRow w g 0 _ 3 (0, 0) _ hgt]
  exact (But.refl (fun k => k = g) w).setRow (fun _ => rfl) _
theorem St.comb {S S' : Nat → Prop} {w0 w1 w2 : World} {L1 L2 : List Ent} (H1 : St S w0 w1 L1) (H2 : St S' w1 w2 L2) (h : ∀ i, i < w0.heap.size → S' i → S i) : St S w0 w2 L2 :=
  ⟨H1.but.trans H2.but h, H2.all, fun x hx hr hl => h _ hl (H2.ok x hx hr (Nat.lt_of_lt_of_le hl H1.but.size)), H2.nd⟩
theorem Rw.one {w : World} {base : Nat} {t : Tr} {v : Value} {b : Nat} (T : TrV w (fun x => base ≤ x ∧ x ≠ b) (reV t.1.k t.1.s v t.1.mn t.1.mx) t) (h : w.heap[b]? = some (.cells (reA t.1.k t.1.s v t.1.mn t.1.mx) 27 (0, 0))) (hb : base ≤ b) : Rw w base (.slice (some ⟨b, 0, none⟩) 1 1) (Fo.nil.snoc t) := by
  obtain ⟨v', zs, e, o, p, k⟩ := T
  have e2 : v = v' := by simpa [reV, reA] using e
  subst e2
  have hne : ∀ x, x ≠ b → (Value.slice (some ⟨b, 0, none⟩) 1 1).ownBlock ≠ some x := fun x hx e => hx (by simpa [Value.ownBlock] using e.symm)
  refine ⟨(reA t.1.k t.1.s v t.1.mn t.1.mx).toList, ⟨rfl, .inr ⟨b, 1, _, rfl, hb, h, Nat.le_refl _, by unfold maxLen; omega, rfl, rfl⟩⟩, ⟨v, [], zs, by simp, o, fun x hx => ⟨(p x hx).1, hne x (p x hx).2⟩, k.mono (fun x _ hx => ⟨hx.1, hne x hx.2⟩), rfl⟩⟩
def altR (br : Nat → Out) (s : ByteArray) (r : Out) : Except Nat (Fo × Nat) := match r with
  | .error p => .error p
  | .ok (t, d) => altL br s (s.size + 1 - d) (Fo.nil.snoc t) d
theorem altM_eq (br : Nat → Out) (s : ByteArray) (a : Nat) : altM br s a = togE 3 (altR br s (seqM br s a)) := by
  unfold altM altR togE
  cases seqM br s a with
  | error p => rfl
  | ok td => rfl
set_option maxHeartbeats 8000000 in
theorem alt_any (n : Nat) (hn : 0 < n) (s : ByteArray) (hs : s.size ≤ 256) (o : Int) (br : Nat → Out) (hbr : BrOk n s o br) (D : Nat) (hD : 1 ≤ D) (hg : BrGood s D br) (w : World) (hT : Tab w) (a : Nat) (ha : a ≤ s.size) (hE : Ev w n s a o true) :
    Calls Tryz.prog 124 #[.pointer (some ⟨n + 8, 0, none⟩), .pointer (some ⟨n + 3, 0, none⟩), .pointer (some ⟨n, 0, none⟩), .pointer (some ⟨n + 1, 0, none⟩)] w (Post n s o w (altM br s a)) := by
  have H : St (S3 n) w w (env n s a o true) := hE.st
  rw [altM_eq]
  have PP := hide (fun a ha w hT hE => seq_any n hn s hs o br hbr D hD hg w hT a ha hE)
  have GP := hide (fun a ha => seq_good hD hg a ha)
  have hE8 := hE.lt
  have P0 := hide (PP.out a ha)
  have G0 := GP.out a ha
  generalize seqM br s a = r0 at P0 G0 ⊢
  generalize hR : altR br s r0 = R
  replace hR := hide hR
  replace hbr := hide hbr
  replace hg := hide hg
  go_enter Tryz.func124, Tryz.ntmps124
  go_wp2_with (first | (with_reducible refine at_alloc 27 ?_; refine wl_alloc28 H ?_; clear H; intro g w' H q1 q2) | (with_reducible refine at_load 9 ?_; first | (refine wl_ld9 4 0 H rfl rfl rfl ?_)) | (with_reducible refine at_load 3 ?_; first | (refine wl_ld3 1 0 H rfl rfl rfl ?_)) | (with_reducible refine at_load 4 ?_; first | (refine wl_ld4 3 0 H rfl rfl rfl ?_)) | (with_reducible refine at_load 183 ?_; first | (refine wl_ld59 5 0 H rfl rfl rfl ?_; simp only [brF, atF, piF, seF, alF]) | (refine wl_ld59 6 0 H rfl rfl rfl ?_; simp only [brF, atF, piF, seF, alF]) | (refine wl_ld59 7 0 H rfl rfl rfl ?_; simp only [brF, atF, piF, seF, alF]) | (refine wl_ld59 8 0 H rfl rfl rfl ?_; simp only [brF, atF, piF, seF, alF]) | (refine wl_ld59 9 0 H rfl rfl rfl ?_; simp only [brF, atF, piF, seF, alF])))
  have hgl := H.lti 0 rfl
  have hs1 := H.but.size
  refine (P0.out _ (tab_st hT H hn) (St.ev (M := [_]) H)).mono ?_
  rintro e w2 ⟨x, t, a1, o1, r1, rfl, T, E2, B2, A2⟩
  have W2 := St.closure (M := [_]) H B2 (fun i _ h => h) E2
  have hs2 := B2.size
  clear H
  have H := St.rebaseE (M := [_]) W2 (fun k => k = g) (fun x hx => by simp only [List.mem_cons, List.not_mem_nil, or_false] at hx; subst hx; rfl)
  obtain ⟨va, vn, vc, hx⟩ := T.val
  subst hx
  have ini : a1 ≤ s.size ∧ SqI (altL br s) s R (Fo.nil.snoc t) a1 o1 o r1 := by
    cases r0 with
    | error p =>
      obtain ⟨rfl, rfl⟩ := A2
      exact ⟨G0, fun h => (by cases h), fun _ => hR.out.symm⟩
    | ok td =>
      obtain ⟨t', d⟩ := td
      obtain ⟨rfl, rfl, rfl, rfl⟩ := A2
      obtain ⟨g1, g2, -⟩ := G0
      exact ⟨g2, fun _ => ⟨_, by omega, hR.out, rfl⟩, fun h => (by cases h)⟩
  obtain ⟨ha1, hI0⟩ := ini
  replace hI0 := hide hI0
  go_wp2_with (first | (with_reducible refine at_bs26 ?_; refine wl_bs26 H rfl ?_; clear H; intro b w' H u1 u2))
  have hbb := H.get 0 rfl
  have R0 : Hid (Rw w' (g + 1) (.slice (some ⟨b, 0, none⟩) 1 1) (Fo.nil.snoc t)) := Rw.one (((T.mono (P' := fun x => (g + 1 ≤ x ∧ x ≠ b) ∧ x ≠ g ∧ ¬ S3 n x) (fun x hx hP => by simp only [S3]; omega)).kept (fun x hP hl => H.but.block x hl (fun h => by rcases h with h | h; exact hP.2.2 h; exact hP.2.1 h))).mono (fun x _ hP => hP.1)) hbb (by omega)
  replace H := W2.comb H.tail (fun i hi h => by rcases h with h | h; exact h; omega)
  clear W2 T B2 E2 A2 P0 hbb
  generalize hv0 : Value.slice (some ⟨b, 0, none⟩) 1 1 = v0 at *
  go_loopw [5] (fun l wr => ∃ f a' o' r, Hid (St (S3 n) w wr ([(true, g, 27, reA 0 noSet (.slice none 0 0) 0 0)] ++ env n s a' o' r)) ∧ Hid (Rw wr (g + 1) l f) ∧ Hid (SqI (altL br s) s R f a' o' o r) ∧ a' ≤ s.size ∧ Hid ((r = true → f.len ≤ a' + 1) ∧ f.len ≤ s.size + 2)) (fun _ wr => muP s n wr)
  case atStart => exact ⟨Fo.nil.snoc t, a1, o1, r1, H, R0, hI0, ha1, ⟨fun _ => by simp [Fo.snoc, Fo.len], by simp [Fo.snoc, Fo.len]⟩⟩
  case round =>
    clear H R0 hI0 ha1 hv0
    obtain ⟨f, a', o', r, H1, R1, hI, ha', hf⟩ := hrel
    have H := H1.out
    clear H1
    have hgl := H.lti 0 rfl
    obtain ⟨ra, rc, hv, -, -⟩ : ∃ x c, u5 = .slice x f.len c ∧ True ∧ True := by
      obtain ⟨xs, ro, _⟩ := R1.out
      obtain ⟨x, c, e, _, _⟩ := owns8_val ro
      exact ⟨x, c, e, trivial, trivial⟩
    subst hv
    generalize hv : Value.slice ra f.len rc = v at *
    have cA := H.cell 1 0 rfl (v := .int .i64 (a' : Int)) rfl
    have cR := H.cell 3 0 rfl (v := .bool r) rfl
    have cS := H.cell 4 0 rfl (v := .string s) rfl
    by_cases hc : r = true ∧ bt s a' = 124
    · obtain ⟨rfl, h124⟩ := hc
      have hlt := bt_lt (s := s) (k := a') (by omega)
      obtain ⟨N, hN, hL, ho⟩ := hI.out.1 rfl
      subst ho
      obtain ⟨m, rfl⟩ : ∃ m, N = m + 1 := ⟨N - 1, by omega⟩
      rw [altL, if_pos h124] at hL
      have P1 := hide (PP.out (a' + 1) (by omega))
      have G1 := GP.out (a' + 1) (by omega)
      generalize seqM br s (a' + 1) = rp at P1 G1 hL
      replace h124 := hide h124
      replace hL := hide hL
      have mu1 := hide (muP_of (St.ev (M := [_]) H))
      have hf1 := hf.out.1 rfl
      clear hI PP GP hf
      go_wp2_with fail
      refine (byteAt_i s a' _ rfl).mono ?_
      rintro e w1 ⟨rfl, rfl⟩
      rw [h124.out]
      clear cA cR cS
      go_wp2_with (first | (with_reducible refine at_store 3 ?_; refine wl_st3b 1 H rfl rfl rfl ?_; clear H; intro w' H B1) | (with_reducible refine at_load 9 ?_; first | (refine wl_ld9 4 0 H rfl rfl rfl ?_)) | (with_reducible refine at_load 3 ?_; first | (refine wl_ld3 1 0 H rfl rfl rfl ?_)) | (with_reducible refine at_load 4 ?_; first | (refine wl_ld4 3 0 H rfl rfl rfl ?_)) | (with_reducible refine at_load 183 ?_; first | (refine wl_ld59 5 0 H rfl rfl rfl ?_; simp only [brF, atF, piF, seF, alF]) | (refine wl_ld59 6 0 H rfl rfl rfl ?_; simp only [brF, atF, piF, seF, alF]) | (refine wl_ld59 7 0 H rfl rfl rfl ?_; simp only [brF, atF, piF, seF, alF]) | (refine wl_ld59 8 0 H rfl rfl rfl ?_; simp only [brF, atF, piF, seF, alF]) | (refine wl_ld59 9 0 H rfl rfl rfl ?_; simp only [brF, atF, piF, seF, alF])))
      replace H : St (S3 n) w w' ([(true, g, 27, reA 0 noSet (.slice none 0 0) 0 0)] ++ env n s (a' + 1) o' true) := H
      have R2 := hide (R1.out.kept (w' := w') (fun b hb hl => B1.block b hl (fun h => by omega)))
      have hsb := B1.size
      refine (P1.out w' (tab_st hT H hn) (St.ev (M := [_]) H)).mono ?_
      rintro e w3 ⟨x, t, a2, o2, r2, rfl, T, E3, B3, A3⟩
      have hE9 := E3.lt
      have R3 := hide (R2.out.kept (w' := w3) (fun b hb hl => B3.block b hl (fun h => by simp only [S3] at h; omega)))
      have hs3 := B3.size
      have hown : ∀ k, v.ownBlock = some k → k < w'.heap.size := fun k hk => (R2.out.lt hk).2
      replace H := St.closure (M := [_]) H B3 (fun i _ h => h) E3
      obtain ⟨va, vn, vc, hx⟩ := T.val
      subst hx
      clear P1
      have facts : a2 ≤ s.size ∧ ((r2 = true → (f.snoc t).len ≤ a2 + 1) ∧ (f.snoc t).len ≤ s.size + 2) ∧ okN (.bool r2) * (s.size + 2 - a2) < s.size + 2 - a' ∧ SqI (altL br s) s R (f.snoc t) a2 o2 o' r2 := by
        cases rp with
        | error p =>
          obtain ⟨rfl, rfl⟩ := A3
          refine ⟨G1, ⟨fun h => (by cases h), by rw [Fo.len_snoc]; omega⟩, by simp [okN]; omega, fun h => (by cases h), fun _ => hL.out.symm⟩
        | ok td =>
          obtain ⟨t', d⟩ := td
          obtain ⟨rfl, rfl, rfl, rfl⟩ := A3
          obtain ⟨g1, g2, -⟩ := G1
          exact ⟨g2, ⟨fun _ => by rw [Fo.len_snoc]; omega, by rw [Fo.len_snoc]; omega⟩, by simp [okN]; omega, fun _ => ⟨m, by omega, hL.out, rfl⟩, fun h => (by cases h)⟩
      obtain ⟨k1, k2, k3, k4⟩ := facts
      replace k2 := hide k2
      replace k3 := hide k3
      replace k4 := hide k4
      go_wp2_with (first | (with_reducible refine at_snoc ?_; refine wl_snoc (L := [_] ++ env n s a2 o2 r2) H R3.out T (fun _ => rfl) (fun _ => rfl) rfl hown (by omega) hs3 (by omega) (blocks_lt rfl (by omega)) (by omega) ?_; clear H; intro u v2 w' H R4 hz))
      go_roundw
      case rel => exact ⟨f.snoc t, a2, o2, r2, H, R4, k4, k1, k2⟩
      case measure =>
        show muP s n _ < muP s n _
        rw [muP_of (St.ev (M := [_]) H), mu1.out]
        have := k3.out; simpa [okN] using this
    · have hend : r = true → R = .ok (f, a') := fun hr => by
        obtain ⟨N, hN, hL, _⟩ := hI.out.1 hr
        obtain ⟨m, rfl⟩ : ∃ m, N = m + 1 := ⟨N - 1, by omega⟩
        rw [← hL, altL, if_neg (fun h => hc ⟨hr, h⟩)]
      replace hend := hide hend
      have hf2 := hf.out.2
      have TG := hide (fun xs ro rk => together_any 3 f v wr (fun b => g + 1 ≤ b) xs ro (fun b hb => (R1.out.lt hb).1) rk)
      clear PP GP hf
      cases r with
      | false =>
        clear hc
        go_wp2_with fail
        obtain ⟨xs, ro, rk⟩ := R1.out
        refine (TG.out xs (owns8_mono ro (Nat.zero_le _)) (rk.mono (fun b _ h => h.1))).mono ?_
        rintro e w4 ⟨x, rfl, T4, b4⟩
        have W4 := H.call b4 (Nat.le_refl _)
        clear H TG ro rk
        have H := St.rebaseE (M := [_]) W4 (fun k => k = g) (fun x hx => by simp only [List.mem_cons, List.not_mem_nil, or_false] at hx; subst hx; rfl)
        obtain ⟨va, vn, vc, hx⟩ := T4.val
        subst hx
        clear cA cR cS
        go_wp2_with (first | (with_reducible refine at_store 27 ?_; refine wl_store28 0 H rfl rfl rfl rfl ?_; clear H; intro w' H))
        refine bodyPost_ret (results_cell0 rfl _ _ _ _ rfl (load28 (H.get 0 rfl))) rfl ?_
        refine ⟨_, tog 3 f, a', o', _, rfl, ?_, St.ev (M := [_]) H, W4.but.trans H.but (fun i hi h => by rcases h with h | h; exact h; omega), hI.out.agree 3 (fun h => hend.out (by first | exact h | trivial))⟩
        exact (T4.kept (fun b hP hb => H.but.block b hb (fun h => by rcases h with h | h; simp only [S3] at h; omega; omega))).mono (fun b _ hP => by omega)
      | true =>
        generalize hq : bt s a' = q at hc
        have n124 : (q == 124) = false := beq_eq_false_iff_ne.2 (fun h => hc ⟨rfl, h⟩)
        replace hc := hide hc
        replace hq := hide hq
        go_wp2_with fail
        refine (byteAt_i s a' _ rfl).mono ?_
        rintro e w1 ⟨rfl, rfl⟩
        rw [hq.out]
        go_wp2_with fail
        obtain ⟨xs, ro, rk⟩ := R1.out
        refine (TG.out xs (owns8_mono ro (Nat.zero_le _)) (rk.mono (fun b _ h => h.1))).mono ?_
        rintro e w4 ⟨x, rfl, T4, b4⟩
        have W4 := H.call b4 (Nat.le_refl _)
        clear H TG ro rk
        have H := St.rebaseE (M := [_]) W4 (fun k => k = g) (fun x hx => by simp only [List.mem_cons, List.not_mem_nil, or_false] at hx; subst hx; rfl)
        obtain ⟨va, vn, vc, hx⟩ := T4.val
        subst hx
        clear cA cR cS
        go_wp2_with (first | (with_reducible refine at_store 27 ?_; refine wl_store28 0 H rfl rfl rfl rfl ?_; clear H; intro w' H))
        refine bodyPost_ret (results_cell0 rfl _ _ _ _ rfl (load28 (H.get 0 rfl))) rfl ?_
        refine ⟨_, tog 3 f, a', o', _, rfl, ?_, St.ev (M := [_]) H, W4.but.trans H.but (fun i hi h => by rcases h with h | h; exact h; omega), hI.out.agree 3 (fun h => hend.out (by first | exact h | trivial))⟩
        exact (T4.kept (fun b hP hb => H.but.block b hb (fun h => by rcases h with h | h; simp only [S3] at h; omega; omega))).mono (fun b _ hP => by omega)
open Go.RowKit
set_option linter.unusedVariables false
set_option linter.unusedSimpArgs false

theorem TrV.zeroV (w : World) (P : Nat → Prop) : TrV w P (reV 0 noSet (.slice none 0 0) 0 0) (⟨0, noSet, 0, 0⟩, .nil) := ⟨_, [], rfl, ⟨rfl, .inl ⟨rfl, rfl⟩⟩, fun b hb => (by cases hb), rfl⟩
def brE (s : ByteArray) (r : Out) : Out := match r with
  | .error p => .error p
  | .ok (t, d) => if bt s d = 41 then .ok (t, d + 1) else .error d
theorem brM_eq (s : ByteArray) (m a : Nat) : brM s (m + 1) a = if (opR s a).2 = true then brE s (altM (brM s m) s (opR s a).1) else .error (opR s a).1 := rfl
set_option maxHeartbeats 8000000 in
theorem br_zero (n : Nat) (s : ByteArray) : BrOk n s 32 (brM s 0) := by
  intro w a hE hT hb
  show Calls _ _ _ _ (Post n s 32 w (.error a))
  have H : St (S3 n) w w (env n s a 32 true) := hE.st
  go_enter Tryz.func115, Tryz.ntmps115
  go_wp2_with (first | (with_reducible refine at_alloc 27 ?_; refine wl_alloc28 H ?_; clear H; intro g w' H q1 q2) | (with_reducible refine at_load 9 ?_; first | (refine wl_ld9 4 0 H rfl rfl rfl ?_)) | (with_reducible refine at_load 3 ?_; first | (refine wl_ld3 1 0 H rfl rfl rfl ?_) | (refine wl_ld3 2 0 H rfl rfl rfl ?_)) | (with_reducible refine at_load 4 ?_; first | (refine wl_ld4 3 0 H rfl rfl rfl ?_)) | (with_reducible refine at_load 183 ?_; first | (refine wl_ld59 5 0 H rfl rfl rfl ?_; simp only [brF, atF, piF, seF, alF])) | (with_reducible refine at_store 3 ?_; first | (refine wl_st3 1 H rfl rfl rfl ?_; clear H; intro w' H) | (refine wl_st3 2 H rfl rfl rfl ?_; clear H; intro w' H)) | (with_reducible refine at_store 4 ?_; refine wl_st4 3 H rfl rfl rfl ?_; clear H; intro w' H) | (with_reducible refine at_load 27 ?_; refine wl_load28 0 H rfl rfl ?_) | (with_reducible refine at_store 27 ?_; refine wl_store28 0 H rfl rfl rfl rfl ?_; clear H; intro w' H))
  refine bodyPost_ret (results_cell0 rfl _ _ _ _ rfl (load28 (H.get 0 rfl))) rfl ?_
  exact ⟨_, (⟨0, noSet, 0, 0⟩, .nil), a, 33, false, rfl, TrV.zeroV _ _, St.ev (M := [_]) H, H.but, ⟨rfl, rfl⟩⟩
set_option maxHeartbeats 8000000 in
theorem br_succ (n : Nat) (hn : 0 < n) (s : ByteArray) (hs : s.size ≤ 256) (o : Int) (ho : 0 ≤ o ∧ o ≤ 31) (m : Nat) (IH : BrOk n s (o + 1) (brM s m)) : BrOk n s o (brM s (m + 1)) := by
  intro w a hE hT hb
  have H : St (S3 n) w w (env n s a o true) := hE.st
  have hlt := bt_lt (s := s) (k := a) (by omega)
  obtain ⟨o1, o2⟩ := op_far s a hlt
  have hE8 := hE.lt
  rw [brM_eq]
  have PO := hide (fun w => opening_any s a (by omega) w)
  have PA := hide (fun w hT hE => alt_any n hn s hs (o + 1) (brM s m) IH (3 * m + 1) (by omega) (br_good s m) w hT (opR s a).1 o2 hE)
  have GA := alt_good (by omega) (br_good s m) (opR s a).1 o2
  generalize altM (brM s m) s (opR s a).1 = rA at PA GA ⊢
  generalize opR s a = r0 at PO PA GA o1 o2 ⊢
  obtain ⟨d, ok⟩ := r0
  simp only at PO PA GA o1 o2 ⊢
  replace IH := hide IH
  replace hb := hide hb
  obtain ⟨ho1, ho2⟩ := ho
  have hw1 : o + 1 ≤ 32 := by omega
  cases ok with
  | false =>
    rw [if_neg (by simp)]
    go_enter Tryz.func115, Tryz.ntmps115
    go_wp2_with (first | (with_reducible refine at_alloc 27 ?_; refine wl_alloc28 H ?_; clear H; intro g w' H q1 q2) | (with_reducible refine at_load 9 ?_; first | (refine wl_ld9 4 0 H rfl rfl rfl ?_)) | (with_reducible refine at_load 3 ?_; first | (refine wl_ld3 1 0 H rfl rfl rfl ?_) | (refine wl_ld3 2 0 H rfl rfl rfl ?_)) | (with_reducible refine at_load 4 ?_; first | (refine wl_ld4 3 0 H rfl rfl rfl ?_)) | (with_reducible refine at_load 183 ?_; first | (refine wl_ld59 5 0 H rfl rfl rfl ?_; simp only [brF, atF, piF, seF, alF])) | (with_reducible refine at_store 3 ?_; first | (refine wl_st3 1 H rfl rfl rfl ?_; clear H; intro w' H) | (refine wl_st3 2 H rfl rfl rfl ?_; clear H; intro w' H)) | (with_reducible refine at_store 4 ?_; refine wl_st4 3 H rfl rfl rfl ?_; clear H; intro w' H) | (with_reducible refine at_load 27 ?_; refine wl_load28 0 H rfl rfl ?_) | (with_reducible refine at_store 27 ?_; refine wl_store28 0 H rfl rfl rfl rfl ?_; clear H; intro w' H))
    refine (PO.out _).mono ?_
    rintro e w1 ⟨rfl, rfl⟩
    go_wp2_with (first | (with_reducible refine at_alloc 27 ?_; refine wl_alloc28 H ?_; clear H; intro g w' H q1 q2) | (with_reducible refine at_load 9 ?_; first | (refine wl_ld9 4 0 H rfl rfl rfl ?_)) | (with_reducible refine at_load 3 ?_; first | (refine wl_ld3 1 0 H rfl rfl rfl ?_) | (refine wl_ld3 2 0 H rfl rfl rfl ?_)) | (with_reducible refine at_load 4 ?_; first | (refine wl_ld4 3 0 H rfl rfl rfl ?_)) | (with_reducible refine at_load 183 ?_; first | (refine wl_ld59 5 0 H rfl rfl rfl ?_; simp only [brF, atF, piF, seF, alF])) | (with_reducible refine at_store 3 ?_; first | (refine wl_st3 1 H rfl rfl rfl ?_; clear H; intro w' H) | (refine wl_st3 2 H rfl rfl rfl ?_; clear H; intro w' H)) | (with_reducible refine at_store 4 ?_; refine wl_st4 3 H rfl rfl rfl ?_; clear H; intro w' H) | (with_reducible refine at_load 27 ?_; refine wl_load28 0 H rfl rfl ?_) | (with_reducible refine at_store 27 ?_; refine wl_store28 0 H rfl rfl rfl rfl ?_; clear H; intro w' H))
    refine bodyPost_ret (results_cell0 rfl _ _ _ _ rfl (load28 (H.get 0 rfl))) rfl ?_
    exact ⟨_, (⟨0, noSet, 0, 0⟩, .nil), d, o + 1, false, rfl, TrV.zeroV _ _, St.ev (M := [_]) H, H.but, ⟨rfl, rfl⟩⟩
  | true =>
    rw [if_pos rfl]
    generalize hres : brE s rA = res
    replace hres := hide hres
    go_enter Tryz.func115, Tryz.ntmps115
    go_wp2_with (first | (with_reducible refine at_alloc 27 ?_; refine wl_alloc28 H ?_; clear H; intro g w' H q1 q2) | (with_reducible refine at_load 9 ?_; first | (refine wl_ld9 4 0 H rfl rfl rfl ?_)) | (with_reducible refine at_load 3 ?_; first | (refine wl_ld3 1 0 H rfl rfl rfl ?_) | (refine wl_ld3 2 0 H rfl rfl rfl ?_)) | (with_reducible refine at_load 4 ?_; first | (refine wl_ld4 3 0 H rfl rfl rfl ?_)) | (with_reducible refine at_load 183 ?_; first | (refine wl_ld59 5 0 H rfl rfl rfl ?_; simp only [brF, atF, piF, seF, alF])) | (with_reducible refine at_store 3 ?_; first | (refine wl_st3 1 H rfl rfl rfl ?_; clear H; intro w' H) | (refine wl_st3 2 H rfl rfl rfl ?_; clear H; intro w' H)) | (with_reducible refine at_store 4 ?_; refine wl_st4 3 H rfl rfl rfl ?_; clear H; intro w' H) | (with_reducible refine at_load 27 ?_; refine wl_load28 0 H rfl rfl ?_) | (with_reducible refine at_store 27 ?_; refine wl_store28 0 H rfl rfl rfl rfl ?_; clear H; intro w' H))
    refine (PO.out _).mono ?_
    rintro e w1 ⟨rfl, rfl⟩
    go_wp2_with (first | (with_reducible refine at_alloc 27 ?_; refine wl_alloc28 H ?_; clear H; intro g w' H q1 q2) | (with_reducible refine at_load 9 ?_; first | (refine wl_ld9 4 0 H rfl rfl rfl ?_)) | (with_reducible refine at_load 3 ?_; first | (refine wl_ld3 1 0 H rfl rfl rfl ?_) | (refine wl_ld3 2 0 H rfl rfl rfl ?_)) | (with_reducible refine at_load 4 ?_; first | (refine wl_ld4 3 0 H rfl rfl rfl ?_)) | (with_reducible refine at_load 183 ?_; first | (refine wl_ld59 5 0 H rfl rfl rfl ?_; simp only [brF, atF, piF, seF, alF])) | (with_reducible refine at_store 3 ?_; first | (refine wl_st3 1 H rfl rfl rfl ?_; clear H; intro w' H) | (refine wl_st3 2 H rfl rfl rfl ?_; clear H; intro w' H)) | (with_reducible refine at_store 4 ?_; refine wl_st4 3 H rfl rfl rfl ?_; clear H; intro w' H) | (with_reducible refine at_load 27 ?_; refine wl_load28 0 H rfl rfl ?_) | (with_reducible refine at_store 27 ?_; refine wl_store28 0 H rfl rfl rfl rfl ?_; clear H; intro w' H))
    have hgl := H.lti 0 rfl
    have hs1 := H.but.size
    refine (PA.out _ (tab_st hT H hn) (St.ev (M := [_]) H)).mono ?_
    rintro e w2 ⟨x, t, a2, o2', r2, rfl, T, E2, B2, A2⟩
    have W2 := St.closure (M := [_]) H B2 (fun i _ h => h) E2
    have hs2 := B2.size
    clear H PA
    have H := St.rebaseE (M := [_]) W2 (fun k => k = g) (fun x hx => by simp only [List.mem_cons, List.not_mem_nil, or_false] at hx; subst hx; rfl)
    obtain ⟨va, vn, vc, hx⟩ := T.val
    subst hx
    have keep : Hid (∀ w', But (fun k => S3 n k ∨ k = g) w2 w' → TrV w' (fun b => w.heap.size ≤ b) (reV t.1.k t.1.s (.slice va vn vc) t.1.mn t.1.mx) t) := fun w' hb =>
      ((T.mono (P' := fun b => w.heap.size ≤ b ∧ b ≠ g ∧ ¬ S3 n b) (fun b hb hP => by simp only [S3]; omega)).kept (fun b hP hl => hb.block b hl (fun h => by rcases h with h | h; exact hP.2.2 h; exact hP.2.1 h))).mono (fun b _ hP => hP.1)
    have fin : Hid (∀ w', But (fun k => S3 n k ∨ k = g) w2 w' → But (S3 n) w w') := fun w' hb => W2.but.trans hb (fun i hi h => by rcases h with h | h; exact h; omega)
    clear T B2 E2 W2
    cases rA with
    | error p =>
      obtain ⟨rfl, rfl⟩ := A2
      subst hres
      go_wp2_with (first | (with_reducible refine at_alloc 27 ?_; refine wl_alloc28 H ?_; clear H; intro g w' H q1 q2) | (with_reducible refine at_load 9 ?_; first | (refine wl_ld9 4 0 H rfl rfl rfl ?_)) | (with_reducible refine at_load 3 ?_; first | (refine wl_ld3 1 0 H rfl rfl rfl ?_) | (refine wl_ld3 2 0 H rfl rfl rfl ?_)) | (with_reducible refine at_load 4 ?_; first | (refine wl_ld4 3 0 H rfl rfl rfl ?_)) | (with_reducible refine at_load 183 ?_; first | (refine wl_ld59 5 0 H rfl rfl rfl ?_; simp only [brF, atF, piF, seF, alF])) | (with_reducible refine at_store 3 ?_; first | (refine wl_st3 1 H rfl rfl rfl ?_; clear H; intro w' H) | (refine wl_st3 2 H rfl rfl rfl ?_; clear H; intro w' H)) | (with_reducible refine at_store 4 ?_; refine wl_st4 3 H rfl rfl rfl ?_; clear H; intro w' H) | (with_reducible refine at_load 27 ?_; refine wl_load28 0 H rfl rfl ?_) | (with_reducible refine at_store 27 ?_; refine wl_store28 0 H rfl rfl rfl rfl ?_; clear H; intro w' H))
      refine bodyPost_ret (results_cell0 rfl _ _ _ _ rfl (load28 (H.get 0 rfl))) rfl ?_
      exact ⟨_, t, a2, o2', false, rfl, keep.out _ H.but, St.ev (M := [_]) H, fin.out _ H.but, ⟨rfl, rfl⟩⟩
    | ok td =>
      obtain ⟨t', d2⟩ := td
      obtain ⟨rfl, rfl, rfl, rfl⟩ := A2
      obtain ⟨c1, c2, c3, c4, c5⟩ := GA
      replace c3 := hide c3
      replace c4 := hide c4
      replace c5 := hide c5
      simp only [brE] at hres
      by_cases h41 : bt s a2 = 41
      · rw [if_pos h41] at hres
        subst hres
        replace h41 := hide h41
        go_wp2_with (first | (with_reducible refine at_alloc 27 ?_; refine wl_alloc28 H ?_; clear H; intro g w' H q1 q2) | (with_reducible refine at_load 9 ?_; first | (refine wl_ld9 4 0 H rfl rfl rfl ?_)) | (with_reducible refine at_load 3 ?_; first | (refine wl_ld3 1 0 H rfl rfl rfl ?_) | (refine wl_ld3 2 0 H rfl rfl rfl ?_)) | (with_reducible refine at_load 4 ?_; first | (refine wl_ld4 3 0 H rfl rfl rfl ?_)) | (with_reducible refine at_load 183 ?_; first | (refine wl_ld59 5 0 H rfl rfl rfl ?_; simp only [brF, atF, piF, seF, alF])) | (with_reducible refine at_store 3 ?_; first | (refine wl_st3 1 H rfl rfl rfl ?_; clear H; intro w' H) | (refine wl_st3 2 H rfl rfl rfl ?_; clear H; intro w' H)) | (with_reducible refine at_store 4 ?_; refine wl_st4 3 H rfl rfl rfl ?_; clear H; intro w' H) | (with_reducible refine at_load 27 ?_; refine wl_load28 0 H rfl rfl ?_) | (with_reducible refine at_store 27 ?_; refine wl_store28 0 H rfl rfl rfl rfl ?_; clear H; intro w' H; have cA := H.cell 1 0 rfl (v := .int .i64 (a2 : Int)) rfl; have cS := H.cell 4 0 rfl (v := .string s) rfl))
        refine (byteAt_i s a2 _ rfl).mono ?_
        rintro e w1 ⟨rfl, rfl⟩
        rw [h41.out]
        clear cA cS
        go_wp2_with (first | (with_reducible refine at_alloc 27 ?_; refine wl_alloc28 H ?_; clear H; intro g w' H q1 q2) | (with_reducible refine at_load 9 ?_; first | (refine wl_ld9 4 0 H rfl rfl rfl ?_)) | (with_reducible refine at_load 3 ?_; first | (refine wl_ld3 1 0 H rfl rfl rfl ?_) | (refine wl_ld3 2 0 H rfl rfl rfl ?_)) | (with_reducible refine at_load 4 ?_; first | (refine wl_ld4 3 0 H rfl rfl rfl ?_)) | (with_reducible refine at_load 183 ?_; first | (refine wl_ld59 5 0 H rfl rfl rfl ?_; simp only [brF, atF, piF, seF, alF])) | (with_reducible refine at_store 3 ?_; first | (refine wl_st3 1 H rfl rfl rfl ?_; clear H; intro w' H) | (refine wl_st3 2 H rfl rfl rfl ?_; clear H; intro w' H)) | (with_reducible refine at_store 4 ?_; refine wl_st4 3 H rfl rfl rfl ?_; clear H; intro w' H) | (with_reducible refine at_load 27 ?_; refine wl_load28 0 H rfl rfl ?_) | (with_reducible refine at_store 27 ?_; refine wl_store28 0 H rfl rfl rfl rfl ?_; clear H; intro w' H))
        refine bodyPost_ret (results_cell0 rfl _ _ _ _ rfl (load28 (H.get 0 rfl))) rfl ?_
        exact ⟨_, t, a2 + 1, o, true, rfl, keep.out _ H.but, St.ev (M := [_]) (a := a2 + 1) (o := o) (r := true) H, fin.out _ H.but, ⟨rfl, rfl, rfl, rfl⟩⟩
      · rw [if_neg h41] at hres
        subst hres
        generalize hq : bt s a2 = q at h41
        have n41 : (q == 41) = false := beq_eq_false_iff_ne.2 h41
        replace h41 := hide h41
        replace hq := hide hq
        go_wp2_with (first | (with_reducible refine at_alloc 27 ?_; refine wl_alloc28 H ?_; clear H; intro g w' H q1 q2) | (with_reducible refine at_load 9 ?_; first | (refine wl_ld9 4 0 H rfl rfl rfl ?_)) | (with_reducible refine at_load 3 ?_; first | (refine wl_ld3 1 0 H rfl rfl rfl ?_) | (refine wl_ld3 2 0 H rfl rfl rfl ?_)) | (with_reducible refine at_load 4 ?_; first | (refine wl_ld4 3 0 H rfl rfl rfl ?_)) | (with_reducible refine at_load 183 ?_; first | (refine wl_ld59 5 0 H rfl rfl rfl ?_; simp only [brF, atF, piF, seF, alF])) | (with_reducible refine at_store 3 ?_; first | (refine wl_st3 1 H rfl rfl rfl ?_; clear H; intro w' H) | (refine wl_st3 2 H rfl rfl rfl ?_; clear H; intro w' H)) | (with_reducible refine at_store 4 ?_; refine wl_st4 3 H rfl rfl rfl ?_; clear H; intro w' H) | (with_reducible refine at_load 27 ?_; refine wl_load28 0 H rfl rfl ?_) | (with_reducible refine at_store 27 ?_; refine wl_store28 0 H rfl rfl rfl rfl ?_; clear H; intro w' H; have cA := H.cell 1 0 rfl (v := .int .i64 (a2 : Int)) rfl; have cS := H.cell 4 0 rfl (v := .string s) rfl))
        refine (byteAt_i s a2 _ rfl).mono ?_
        rintro e w1 ⟨rfl, rfl⟩
        rw [hq.out]
        clear cA cS
        go_wp2_with (first | (with_reducible refine at_alloc 27 ?_; refine wl_alloc28 H ?_; clear H; intro g w' H q1 q2) | (with_reducible refine at_load 9 ?_; first | (refine wl_ld9 4 0 H rfl rfl rfl ?_)) | (with_reducible refine at_load 3 ?_; first | (refine wl_ld3 1 0 H rfl rfl rfl ?_) | (refine wl_ld3 2 0 H rfl rfl rfl ?_)) | (with_reducible refine at_load 4 ?_; first | (refine wl_ld4 3 0 H rfl rfl rfl ?_)) | (with_reducible refine at_load 183 ?_; first | (refine wl_ld59 5 0 H rfl rfl rfl ?_; simp only [brF, atF, piF, seF, alF])) | (with_reducible refine at_store 3 ?_; first | (refine wl_st3 1 H rfl rfl rfl ?_; clear H; intro w' H) | (refine wl_st3 2 H rfl rfl rfl ?_; clear H; intro w' H)) | (with_reducible refine at_store 4 ?_; refine wl_st4 3 H rfl rfl rfl ?_; clear H; intro w' H) | (with_reducible refine at_load 27 ?_; refine wl_load28 0 H rfl rfl ?_) | (with_reducible refine at_store 27 ?_; refine wl_store28 0 H rfl rfl rfl rfl ?_; clear H; intro w' H))
        refine bodyPost_ret (results_cell0 rfl _ _ _ _ rfl (load28 (H.get 0 rfl))) rfl ?_
        exact ⟨_, t, a2, _, false, rfl, keep.out _ H.but, St.ev (M := [_]) H, fin.out _ H.but, ⟨rfl, rfl⟩⟩
theorem br_any (n : Nat) (hn : 0 < n) (s : ByteArray) (hs : s.size ≤ 256) : ∀ m : Nat, m ≤ 32 → BrOk n s (32 - (m : Int)) (brM s m)
  | 0, _ => br_zero n s
  | m + 1, h => by
    have := br_succ n hn s hs (32 - ((m + 1 : Nat) : Int)) (by omega) m (by
      rw [show (32 : Int) - ((m + 1 : Nat) : Int) + 1 = 32 - (m : Int) by omega]
      exact br_any n hn s hs m (by omega))
    exact this
end Go.Proofs.YtnffbmipllhjdaaGreatDoor

namespace Go.Proofs.YtnffbmipllhjdaaGreatDoor
open Go.RowKit
set_option linter.unusedVariables false
set_option linter.unusedSimpArgs false

section
variable {S : Nat → Prop} {w0 w : World} {L : List Ent} {ops : Array Oper} {rest : List Oper} {a : Act} {Q : Exit → Act → World → Prop} {dst : Option Nat} {x y : Operand} {ty : TypeId} {pos : String} {after : Array Edge}
/-- A box is made, and it is known where. -/
theorem wl_allocE (t : TypeId) (zs : Array Value) (H : St S w0 w L) {g : Nat} (hg : w.heap.size = g) (hz : ∀ w, (execOp a.eval ⟨dst, .alloc t, ty, pos, after, none⟩).run Tryz.prog w = .ok (.value (.pointer (some ⟨w.heap.size, 0, none⟩))) (w.alloc (.cells zs t)))
    (h : ∀ w', St S w0 w' ((true, g, t, zs) :: L) → w'.heap.size = g + 1 → wpList Tryz.prog ops Q rest (a.put dst (.pointer (some ⟨g, 0, none⟩))) w') : wpList Tryz.prog ops Q (⟨dst, .alloc t, ty, pos, after, none⟩ :: rest) a w := by
  subst hg
  refine wpList_plain rfl fun K hK => ?_
  unfold Oper.wp
  rw [hz, Oper.upon_value]
  exact hK _ _ (h _ (H.alloc t zs) (by simp))
theorem run_alloc3 (w : World) : (execOp a.eval ⟨dst, .alloc 3, ty, pos, after, none⟩).run Tryz.prog w = .ok (.value (.pointer (some ⟨w.heap.size, 0, none⟩))) (w.alloc (.cells #[.int .i64 0] 3)) := by
  unfold execOp
  kernel_rfl
theorem run_alloc4 (w : World) : (execOp a.eval ⟨dst, .alloc 4, ty, pos, after, none⟩).run Tryz.prog w = .ok (.value (.pointer (some ⟨w.heap.size, 0, none⟩))) (w.alloc (.cells #[.bool false] 4)) := by
  unfold execOp
  kernel_rfl
theorem run_alloc59 (w : World) : (execOp a.eval ⟨dst, .alloc 183, ty, pos, after, none⟩).run Tryz.prog w = .ok (.value (.pointer (some ⟨w.heap.size, 0, none⟩))) (w.alloc (.cells #[.nilFunc] 183)) := by
  unfold execOp
  kernel_rfl
theorem run_alloc70 (w : World) : (execOp a.eval ⟨dst, .alloc 238, ty, pos, after, none⟩).run Tryz.prog w = .ok (.value (.pointer (some ⟨w.heap.size, 0, none⟩))) (w.alloc (.cells #[.nilFunc] 238)) := by
  unfold execOp
  kernel_rfl
theorem wl_box9 (H : St S w0 w L) {s : ByteArray} (hx : a.eval x = .string s) {g : Nat} (hg : w.heap.size = g)
    (h : ∀ w', St S w0 w' ((true, g, 9, #[.string s]) :: L) → w'.heap.size = g + 1 → wpList Tryz.prog ops Q rest (a.put dst (.pointer (some ⟨g, 0, none⟩))) w') : wpList Tryz.prog ops Q (⟨dst, .box 9 x, ty, pos, after, none⟩ :: rest) a w := by
  subst hg
  refine wpList_plain rfl fun K hK => ?_
  have e : (execOp a.eval ⟨dst, .box 9 x, ty, pos, after, none⟩).run Tryz.prog w = .ok (.value (.pointer (some ⟨w.heap.size, 0, none⟩))) (w.alloc (.cells #[.string s] 9)) := by
    unfold execOp
    simp only [hx]
    kernel_rfl
  unfold Oper.wp
  rw [e, Oper.upon_value]
  exact hK _ _ (h _ (H.alloc 9 _) (by simp))
theorem wl_storeS (i : Nat) (ty' : TypeId) (H : St S w0 w L) {t : TypeId} {g : Nat} {u v : Value} (h : L[i]? = some (true, g, t, #[u])) (hx : a.eval x = .pointer (some ⟨g, 0, none⟩)) (hy : a.eval y = v) (hi : ∀ w, (sizeOf ty').run Tryz.prog w = .ok 1 w) (h1 : v.oneCell' = true) {z : Nat} (hz : w.heap.size = z)
    (k : ∀ w', St S w0 w' (L.set i (true, g, t, #[v])) → w'.heap.size = z → wpList Tryz.prog ops Q rest a w') : wpList Tryz.prog ops Q (⟨none, .store ty' x y, ty, pos, after, none⟩ :: rest) a w := by
  refine wpList_plain rfl fun K hK => ?_
  have h2 := H.setCell i h 0 v
  have hc : w.cell? ⟨g, 0, none⟩ = some u := H.cell i 0 h rfl
  have hf := H.fz i 0 h
  have hcs : v.cells = #[v] := by cases v <;> first | rfl | cases h1
  have hst : (storeVar ty' ⟨g, 0, none⟩ v).run Tryz.prog w = .ok () (w.setCell ⟨g, 0, none⟩ v) := by
    have e : (storeCells ⟨g, 0, none⟩ [v]).run Tryz.prog w = .ok () (w.setCell ⟨g, 0, none⟩ v) := by simp [storeCells, go_sem, run_store Tryz.prog w _ v _ h1, stored, hc, hf]
    unfold storeVar
    simp only [Sem.run_bind, hi, Result.andThen_ok, hcs]
    simpa using e
  unfold Oper.wp execOp
  simp only [hx, hy, Instr.storeAt, Instr.sureAddr, Sem.run_bind, Sem.run_pure, Result.andThen_ok, hst]
  exact hK _ _ (k _ h2 (by rw [← hz]; simp [World.setCell]))
end
set_option maxHeartbeats 8000000 in
theorem parser_any (s : ByteArray) (w : World) (n : Nat) (hz : w.heap.size = n) : Calls Tryz.prog 69 #[.string s] w fun e w' => e = .returned (.func (.func 125) #[] #[.pointer (some ⟨n + 4, 0, none⟩), .pointer (some ⟨n + 1, 0, none⟩), .pointer (some ⟨n + 3, 0, none⟩), .pointer (some ⟨n, 0, none⟩)]) ∧ Ev w' n s 0 0 true ∧ Below n w w' := by
  have hmf : ∀ (fn : Fn) (first cap : Array Value) (w : World), (Instr.makeFunc fn first cap).run Tryz.prog w = .ok (.func fn first cap) w := fun _ _ _ _ => rfl
  have H := St.start Nope w
  have hz0 := hide hz
  go_enter Tryz.func69, Tryz.ntmps69
  go_wp2_with (first | (with_reducible refine at_box 9 ?_; refine wl_box9 H rfl hz ?_; clear H hz; intro w' H hz) | (with_reducible refine at_alloc 3 ?_; refine wl_allocE 3 _ H hz (fun w => run_alloc3 w) ?_; clear H hz; intro w' H hz) | (with_reducible refine at_alloc 4 ?_; refine wl_allocE 4 _ H hz (fun w => run_alloc4 w) ?_; clear H hz; intro w' H hz) | (with_reducible refine at_alloc 183 ?_; refine wl_allocE 183 _ H hz (fun w => run_alloc59 w) ?_; clear H hz; intro w' H hz) | (with_reducible refine at_store 3 ?_; first | (refine wl_storeS 1 3 H rfl rfl rfl one3 rfl hz ?_; clear H hz; intro w' H hz) | (refine wl_storeS 2 3 H rfl rfl rfl one3 rfl hz ?_; clear H hz; intro w' H hz)) | (with_reducible refine at_store 4 ?_; first | (refine wl_storeS 0 4 H rfl rfl rfl one4 rfl hz ?_; clear H hz; intro w' H hz)) | (with_reducible refine at_store 183 ?_; first | (refine wl_storeS 0 183 H rfl rfl rfl one59 rfl hz ?_; clear H hz; intro w' H hz) | (refine wl_storeS 4 183 H rfl rfl rfl one59 rfl hz ?_; clear H hz; intro w' H hz)))
  go_ret
  refine ⟨rfl, fun x hx => ?_, by rw [← hz0.out]; exact H.below⟩
  simp only [env, List.mem_cons, List.not_mem_nil, or_false] at hx
  rcases hx with rfl | rfl | rfl | rfl | rfl | rfl | rfl | rfl | rfl
  · exact H.get (b := true) 7 rfl
  · exact H.get (b := true) 6 rfl
  · exact H.get (b := true) 5 rfl
  · exact H.get (b := true) 8 rfl
  · exact H.get (b := true) 4 rfl
  · exact H.get (b := true) 3 rfl
  · exact H.get (b := true) 2 rfl
  · exact H.get (b := true) 1 rfl
  · exact H.get (b := true) 0 rfl
open Go.RowKit
set_option linter.unusedVariables false
set_option linter.unusedSimpArgs false

theorem run_ld28 {ev : Operand → Value} {dst : Option Nat} {ty : TypeId} {pos : String} {after : Array Edge} {gd : Option (Nat × Bool)} {x : Operand} {g : Nat} {v : Value} {w : World} (hx : ev x = .pointer (some ⟨g, 0, none⟩)) (hl : (loadVar 27 ⟨g, 0, none⟩).run Tryz.prog w = .ok v w) : (execOp ev ⟨dst, .load 27 x, ty, pos, after, gd⟩).run Tryz.prog w = .ok (.value v) w := by
  unfold execOp
  simp only [hx, Instr.loadAt, Instr.sureAddr, Sem.run_bind, Sem.run_pure, Result.andThen_ok, hl]
theorem wp_storeV {o : Oper} {a : Act} {w w' : World} {K : Act → World → Prop} {Q : Exit → Act → World → Prop} {x y : Operand} (ho : o.op = .store 27 x y) {g : Nat} {v : Value} (hx : a.eval x = .pointer (some ⟨g, 0, none⟩)) (hy : a.eval y = v) (hst : (storeVar 27 ⟨g, 0, none⟩ v).run Tryz.prog w = .ok () w') (h : K (a.put o.dst undef) w') : o.wp Tryz.prog a w K Q := by
  unfold Oper.wp execOp
  simp only [ho, hx, hy, Instr.storeAt, Instr.sureAddr, Sem.run_bind, Sem.run_pure, Result.andThen_ok, hst]
  exact h
set_option maxHeartbeats 8000000 in
set_option maxRecDepth 100000 in
theorem reg37t (w w' : World) (n g g2 a : Nat) (s : ByteArray) (k : Int) (sx : S4) (l : Value) (mn mx : Int) (b : Bool) (hb : ((a : Int) == (s.size : Int)) = b) (d1 : w.cell? ⟨n + 1, 0, none⟩ = some (.int .i64 (a : Int))) (d2 : w.cell? ⟨n + 3, 0, none⟩ = some (.bool true)) (d3 : w.cell? ⟨n, 0, none⟩ = some (.string s)) (d4 : ∀ m, (loadVar 27 ⟨g2, 0, none⟩).run Tryz.prog (w.drewN m) = .ok (reV k sx l mn mx) (w.drewN m)) (d5 : (storeVar 27 ⟨g, 0, none⟩ (reV k sx l mn mx)).run Tryz.prog w.drew = .ok () w') (e1 : w'.cell? ⟨n + 1, 0, none⟩ = some (.int .i64 (a : Int))) (e2 : w'.cell? ⟨n + 3, 0, none⟩ = some (.bool true)) (e3 : w'.cell? ⟨n, 0, none⟩ = some (.string s)) (e4 : (loadVar 27 ⟨g2, 0, none⟩).run Tryz.prog w' = .ok (reV k sx l mn mx) w')
    (u5 u6 u8 u9 u10 u11 u12 u13 u14 u15 u16 u17 u18 : Value) (Q : Exit → Act → World → Prop) (h : Q .normal { tmps := (List.toArray ((.pointer (some ⟨n + 4, 0, none⟩) :: .pointer (some ⟨n + 1, 0, none⟩) :: .pointer (some ⟨n + 3, 0, none⟩) :: .pointer (some ⟨n, 0, none⟩) :: .pointer (some ⟨g, 0, none⟩) :: .int .i64 (a : Int) :: .bool b :: .pointer (some ⟨g2, 0, none⟩) :: u8 :: u9 :: reV k sx l mn mx :: .int .i64 (a : Int) :: .bool true :: .bool true :: .int .i64 (a : Int) :: .string s :: .int .i64 (s.size : Int) :: .bool b :: .bool b :: []) : List Value)), defers := [] } w') :
    (Code.region 2 #[{ dst := some 10, op := Op.load 27 (Operand.tmp 7), type := 27, pos := "parse.go:66", after := #[], guard := none }, { dst := some 11, op := Op.load 3 (Operand.tmp 1), type := 3, pos := "parse.go:66", after := #[{ on := 9, ground := Ground.gcOnly Departure.lateStores }], guard := none }, { dst := some 12, op := Op.load 4 (Operand.tmp 2), type := 4, pos := "parse.go:66", after := #[], guard := none }, { dst := some 13, op := Op.move (Operand.tmp 12), type := 4, pos := "parse.go:66", after := #[{ on := 2, ground := Ground.data }], guard := none }, { dst := some 14, op := Op.load 3 (Operand.tmp 1), type := 3, pos := "parse.go:66", after := #[{ on := 3, ground := Ground.guard }, { on := 10, ground := Ground.gcOnly Departure.lateStores }], guard := some (3, true) }, { dst := some 15, op := Op.load 9 (Operand.tmp 3), type := 9, pos := "parse.go:66", after := #[{ on := 3, ground := Ground.guard }], guard := some (3, true) }, { dst := some 16, op := Op.call { callee := Callee.builtin Builtin.len, args := #[Operand.tmp 15], argTypes := #[9] }, type := 3, pos := "parse.go:66", after := #[{ on := 5, ground := Ground.data }, { on := 3, ground := Ground.guard }], guard := some (3, true) }, { dst := some 17, op := Op.binOp BinOp.eql 3 (Operand.tmp 14) (Operand.tmp 16) 3, type := 4, pos := "parse.go:66", after := #[{ on := 4, ground := Ground.data }, { on := 6, ground := Ground.data }, { on := 3, ground := Ground.guard }, { on := 10, ground := Ground.gcOnly Departure.lateStores }], guard := some (3, true) }, { dst := some 18, op := Op.pick (Operand.tmp 13) (Operand.tmp 17) (Operand.const (Value.bool false)), type := 4, pos := "parse.go:66", after := #[{ on := 3, ground := Ground.data }, { on := 7, ground := Ground.data }, { on := 10, ground := Ground.gcOnly Departure.lateStores }], guard := none }, { dst := none, op := Op.store 27 (Operand.tmp 4) (Operand.tmp 10), type := 0, pos := "parse.go:66", after := #[{ on := 0, ground := Ground.data }, { on := 3, ground := Ground.chain }, { on := 0, ground := Ground.phase }, { on := 1, ground := Ground.textOnly Departure.lateStores }, { on := 2, ground := Ground.textOnly Departure.lateStores }, { on := 3, ground := Ground.textOnly Departure.lateStores }, { on := 4, ground := Ground.textOnly Departure.lateStores }, { on := 5, ground := Ground.textOnly Departure.lateStores }, { on := 6, ground := Ground.textOnly Departure.lateStoresUnsure }, { on := 7, ground := Ground.textOnly Departure.lateStores }, { on := 8, ground := Ground.textOnly Departure.lateStores }], guard := none }, { dst := some 5, op := Op.assign (Operand.tmp 11), type := 3, pos := "parse.go:66", after := #[{ on := 1, ground := Ground.data }, { on := 9, ground := Ground.chain }, { on := 0, ground := Ground.phase }, { on := 1, ground := Ground.phase }, { on := 2, ground := Ground.textOnly Departure.lateStores }, { on := 3, ground := Ground.textOnly Departure.lateStores }, { on := 4, ground := Ground.textOnly Departure.lateStores }, { on := 5, ground := Ground.textOnly Departure.lateStores }, { on := 6, ground := Ground.textOnly Departure.lateStoresUnsure }, { on := 7, ground := Ground.textOnly Departure.lateStores }, { on := 8, ground := Ground.textOnly Departure.lateStores }, { on := 9, ground := Ground.phase }], guard := none }, { dst := some 6, op := Op.assign (Operand.tmp 18), type := 4, pos := "parse.go:66", after := #[{ on := 8, ground := Ground.data }, { on := 10, ground := Ground.chain }, { on := 0, ground := Ground.phase }, { on := 1, ground := Ground.phase }, { on := 2, ground := Ground.phase }, { on := 3, ground := Ground.phase }, { on := 4, ground := Ground.phase }, { on := 5, ground := Ground.phase }, { on := 6, ground := Ground.phase }, { on := 7, ground := Ground.phase }, { on := 8, ground := Ground.phase }, { on := 9, ground := Ground.phase }, { on := 10, ground := Ground.phase }], guard := none }] true).wp Tryz.prog Q { tmps := (List.toArray ((.pointer (some ⟨n + 4, 0, none⟩) :: .pointer (some ⟨n + 1, 0, none⟩) :: .pointer (some ⟨n + 3, 0, none⟩) :: .pointer (some ⟨n, 0, none⟩) :: .pointer (some ⟨g, 0, none⟩) :: u5 :: u6 :: .pointer (some ⟨g2, 0, none⟩) :: u8 :: u9 :: u10 :: u11 :: u12 :: u13 :: u14 :: u15 :: u16 :: u17 :: u18 :: []) : List Value)), defers := [] } w := by
  replace h := hide h
  refine wp_region_noPanic ?_
  refine wp_region_held_drew (S := (fun w' => w'.cell? ⟨n + 1, 0, none⟩ = some (.int .i64 (a : Int)) ∧ w'.cell? ⟨n + 3, 0, none⟩ = some (.bool true) ∧ w'.cell? ⟨n, 0, none⟩ = some (.string s) ∧ (loadVar 27 ⟨g2, 0, none⟩).run Tryz.prog w' = .ok (reV k sx l mn mx) w')) (by kernel_rfl) ⟨d1, d2, d3, d4 1⟩ (fun hH0 => ?_)
  refine wpAnyH_take (i := 0) (oi := { dst := some 10, op := Op.load 27 (Operand.tmp 7), type := 27, pos := "parse.go:66", after := #[], guard := none }) (v := reV k sx l mn mx) rfl (by kernel_rfl) (by kernel_rfl) (by kernel_rfl) (fun _ _ _ h => h) (Or.inl ⟨by rfl, fun w' hw' => run_ld28 rfl hw'.2.2.2⟩) hH0 ?_
  try simp only [Act.put, List.setIfInBounds_toArray, List.set_cons_zero, List.set_cons_succ]
  refine wpAnyH_take (i := 1) (oi := { dst := some 11, op := Op.load 3 (Operand.tmp 1), type := 3, pos := "parse.go:66", after := #[{ on := 9, ground := Ground.gcOnly Departure.lateStores }], guard := none }) (v := ?_) rfl (by kernel_rfl) (by kernel_rfl) (by kernel_rfl) (fun _ _ _ h => h) (Or.inl ⟨by rfl, ?_⟩) hH0 ?_
  rotate_left
  · intro w' hw'
    obtain ⟨c1, c2, c3, c4⟩ := hw'
    go_simp
    try with_reducible rfl
  try simp only [Act.put, List.setIfInBounds_toArray, List.set_cons_zero, List.set_cons_succ]
  refine wpAnyH_take (i := 2) (oi := { dst := some 12, op := Op.load 4 (Operand.tmp 2), type := 4, pos := "parse.go:66", after := #[], guard := none }) (v := ?_) rfl (by kernel_rfl) (by kernel_rfl) (by kernel_rfl) (fun _ _ _ h => h) (Or.inl ⟨by rfl, ?_⟩) hH0 ?_
  rotate_left
  · intro w' hw'
    obtain ⟨c1, c2, c3, c4⟩ := hw'
    go_simp
    try with_reducible rfl
  try simp only [Act.put, List.setIfInBounds_toArray, List.set_cons_zero, List.set_cons_succ]
  refine wpAnyH_take (i := 3) (oi := { dst := some 13, op := Op.move (Operand.tmp 12), type := 4, pos := "parse.go:66", after := #[{ on := 2, ground := Ground.data }], guard := none }) (v := ?_) rfl (by kernel_rfl) (by kernel_rfl) (by kernel_rfl) (fun _ _ _ h => h) (Or.inl ⟨by rfl, ?_⟩) hH0 ?_
  rotate_left
  · intro w' hw'
    obtain ⟨c1, c2, c3, c4⟩ := hw'
    go_simp
    try with_reducible rfl
  try simp only [Act.put, List.setIfInBounds_toArray, List.set_cons_zero, List.set_cons_succ]
  refine wpAnyH_take (i := 4) (oi := { dst := some 14, op := Op.load 3 (Operand.tmp 1), type := 3, pos := "parse.go:66", after := #[{ on := 3, ground := Ground.guard }, { on := 10, ground := Ground.gcOnly Departure.lateStores }], guard := some (3, true) }) (v := ?_) rfl (by kernel_rfl) (by kernel_rfl) (by kernel_rfl) (fun _ _ _ h => h) (Or.inl ⟨by rfl, ?_⟩) hH0 ?_
  rotate_left
  · intro w' hw'
    obtain ⟨c1, c2, c3, c4⟩ := hw'
    go_simp
    try with_reducible rfl
  try simp only [Act.put, List.setIfInBounds_toArray, List.set_cons_zero, List.set_cons_succ]
  refine wpAnyH_take (i := 5) (oi := { dst := some 15, op := Op.load 9 (Operand.tmp 3), type := 9, pos := "parse.go:66", after := #[{ on := 3, ground := Ground.guard }], guard := some (3, true) }) (v := ?_) rfl (by kernel_rfl) (by kernel_rfl) (by kernel_rfl) (fun _ _ _ h => h) (Or.inl ⟨by rfl, ?_⟩) hH0 ?_
  rotate_left
  · intro w' hw'
    obtain ⟨c1, c2, c3, c4⟩ := hw'
    go_simp
    try with_reducible rfl
  try simp only [Act.put, List.setIfInBounds_toArray, List.set_cons_zero, List.set_cons_succ]
  refine wpAnyH_take (i := 6) (oi := { dst := some 16, op := Op.call { callee := Callee.builtin Builtin.len, args := #[Operand.tmp 15], argTypes := #[9] }, type := 3, pos := "parse.go:66", after := #[{ on := 5, ground := Ground.data }, { on := 3, ground := Ground.guard }], guard := some (3, true) }) (v := ?_) rfl (by kernel_rfl) (by kernel_rfl) (by kernel_rfl) (fun _ _ _ h => h) (Or.inl ⟨by rfl, ?_⟩) hH0 ?_
  rotate_left
  · intro w' hw'
    obtain ⟨c1, c2, c3, c4⟩ := hw'
    go_simp
    try with_reducible rfl
  try simp only [Act.put, List.setIfInBounds_toArray, List.set_cons_zero, List.set_cons_succ]
  refine wpAnyH_take (i := 7) (oi := { dst := some 17, op := Op.binOp BinOp.eql 3 (Operand.tmp 14) (Operand.tmp 16) 3, type := 4, pos := "parse.go:66", after := #[{ on := 4, ground := Ground.data }, { on := 6, ground := Ground.data }, { on := 3, ground := Ground.guard }, { on := 10, ground := Ground.gcOnly Departure.lateStores }], guard := some (3, true) }) (v := ?_) rfl (by kernel_rfl) (by kernel_rfl) (by kernel_rfl) (fun _ _ _ h => h) (Or.inl ⟨by rfl, ?_⟩) hH0 ?_
  rotate_left
  · intro w' hw'
    obtain ⟨c1, c2, c3, c4⟩ := hw'
    go_simp
    try with_reducible rfl
  try simp only [Act.put, List.setIfInBounds_toArray, List.set_cons_zero, List.set_cons_succ]
  refine wpAnyH_take (i := 8) (oi := { dst := some 18, op := Op.pick (Operand.tmp 13) (Operand.tmp 17) (Operand.const (Value.bool false)), type := 4, pos := "parse.go:66", after := #[{ on := 3, ground := Ground.data }, { on := 7, ground := Ground.data }, { on := 10, ground := Ground.gcOnly Departure.lateStores }], guard := none }) (v := ?_) rfl (by kernel_rfl) (by kernel_rfl) (by kernel_rfl) (fun _ _ _ h => h) (Or.inl ⟨by rfl, ?_⟩) hH0 ?_
  rotate_left
  · intro w' hw'
    obtain ⟨c1, c2, c3, c4⟩ := hw'
    go_simp
    try with_reducible rfl
  try simp only [Act.put, List.setIfInBounds_toArray, List.set_cons_zero, List.set_cons_succ]
  refine wpAnyH_ready (rs := [9]) (by kernel_rfl) (by simp) ?_
  refine AllReadyH.cons (o := { dst := none, op := Op.store 27 (Operand.tmp 4) (Operand.tmp 10), type := 0, pos := "parse.go:66", after := #[{ on := 0, ground := Ground.data }, { on := 3, ground := Ground.chain }, { on := 0, ground := Ground.phase }, { on := 1, ground := Ground.textOnly Departure.lateStores }, { on := 2, ground := Ground.textOnly Departure.lateStores }, { on := 3, ground := Ground.textOnly Departure.lateStores }, { on := 4, ground := Ground.textOnly Departure.lateStores }, { on := 5, ground := Ground.textOnly Departure.lateStores }, { on := 6, ground := Ground.textOnly Departure.lateStoresUnsure }, { on := 7, ground := Ground.textOnly Departure.lateStores }, { on := 8, ground := Ground.textOnly Departure.lateStores }], guard := none }) rfl (fun K hK => ?_) AllReadyH.nil
  rw [if_pos (by rfl)]
  refine wp_storeV rfl rfl rfl d5 ?_
  refine hK.out _ _ ⟨e1, e2, e3, e4⟩ (fun hH1 => ?_)
  clear hK
  try simp only [Act.put, List.setIfInBounds_toArray, List.set_cons_zero, List.set_cons_succ]
  refine wpAnyH_take (i := 10) (oi := { dst := some 5, op := Op.assign (Operand.tmp 11), type := 3, pos := "parse.go:66", after := #[{ on := 1, ground := Ground.data }, { on := 9, ground := Ground.chain }, { on := 0, ground := Ground.phase }, { on := 1, ground := Ground.phase }, { on := 2, ground := Ground.textOnly Departure.lateStores }, { on := 3, ground := Ground.textOnly Departure.lateStores }, { on := 4, ground := Ground.textOnly Departure.lateStores }, { on := 5, ground := Ground.textOnly Departure.lateStores }, { on := 6, ground := Ground.textOnly Departure.lateStoresUnsure }, { on := 7, ground := Ground.textOnly Departure.lateStores }, { on := 8, ground := Ground.textOnly Departure.lateStores }, { on := 9, ground := Ground.phase }], guard := none }) (v := ?_) rfl (by kernel_rfl) (by kernel_rfl) (by kernel_rfl) (fun _ _ _ h => h) (Or.inl ⟨by rfl, ?_⟩) hH1 ?_
  rotate_left
  · intro w' hw'
    obtain ⟨c1, c2, c3, c4⟩ := hw'
    go_simp
    try with_reducible rfl
  try simp only [Act.put, List.setIfInBounds_toArray, List.set_cons_zero, List.set_cons_succ]
  refine wpAnyH_take (i := 11) (oi := { dst := some 6, op := Op.assign (Operand.tmp 18), type := 4, pos := "parse.go:66", after := #[{ on := 8, ground := Ground.data }, { on := 10, ground := Ground.chain }, { on := 0, ground := Ground.phase }, { on := 1, ground := Ground.phase }, { on := 2, ground := Ground.phase }, { on := 3, ground := Ground.phase }, { on := 4, ground := Ground.phase }, { on := 5, ground := Ground.phase }, { on := 6, ground := Ground.phase }, { on := 7, ground := Ground.phase }, { on := 8, ground := Ground.phase }, { on := 9, ground := Ground.phase }, { on := 10, ground := Ground.phase }], guard := none }) (v := ?_) rfl (by kernel_rfl) (by kernel_rfl) (by kernel_rfl) (fun _ _ _ h => h) (Or.inl ⟨by rfl, ?_⟩) hH1 ?_
  rotate_left
  · intro w' hw'
    obtain ⟨c1, c2, c3, c4⟩ := hw'
    go_simp
    try with_reducible rfl
  try simp only [Act.put, List.setIfInBounds_toArray, List.set_cons_zero, List.set_cons_succ]
  refine wpAnyH_done (by kernel_rfl) ?_ _
  refine NoPanic.normal ?_
  exact h.out
set_option maxHeartbeats 8000000 in
set_option maxRecDepth 100000 in
theorem reg37f (w w' : World) (n g g2 a : Nat) (s : ByteArray) (k : Int) (sx : S4) (l : Value) (mn mx : Int) (b : Bool) (hb : ((a : Int) == (s.size : Int)) = b) (d1 : w.cell? ⟨n + 1, 0, none⟩ = some (.int .i64 (a : Int))) (d2 : w.cell? ⟨n + 3, 0, none⟩ = some (.bool false)) (d3 : w.cell? ⟨n, 0, none⟩ = some (.string s)) (d4 : ∀ m, (loadVar 27 ⟨g2, 0, none⟩).run Tryz.prog (w.drewN m) = .ok (reV k sx l mn mx) (w.drewN m)) (d5 : (storeVar 27 ⟨g, 0, none⟩ (reV k sx l mn mx)).run Tryz.prog w.drew = .ok () w') (e1 : w'.cell? ⟨n + 1, 0, none⟩ = some (.int .i64 (a : Int))) (e2 : w'.cell? ⟨n + 3, 0, none⟩ = some (.bool false)) (e3 : w'.cell? ⟨n, 0, none⟩ = some (.string s)) (e4 : (loadVar 27 ⟨g2, 0, none⟩).run Tryz.prog w' = .ok (reV k sx l mn mx) w')
    (u5 u6 u8 u9 u10 u11 u12 u13 u14 u15 u16 u17 u18 : Value) (Q : Exit → Act → World → Prop) (h : Q .normal { tmps := (List.toArray ((.pointer (some ⟨n + 4, 0, none⟩) :: .pointer (some ⟨n + 1, 0, none⟩) :: .pointer (some ⟨n + 3, 0, none⟩) :: .pointer (some ⟨n, 0, none⟩) :: .pointer (some ⟨g, 0, none⟩) :: .int .i64 (a : Int) :: .bool false :: .pointer (some ⟨g2, 0, none⟩) :: u8 :: u9 :: reV k sx l mn mx :: .int .i64 (a : Int) :: .bool false :: .bool false :: undef :: undef :: undef :: undef :: .bool false :: []) : List Value)), defers := [] } w') :
    (Code.region 2 #[{ dst := some 10, op := Op.load 27 (Operand.tmp 7), type := 27, pos := "parse.go:66", after := #[], guard := none }, { dst := some 11, op := Op.load 3 (Operand.tmp 1), type := 3, pos := "parse.go:66", after := #[{ on := 9, ground := Ground.gcOnly Departure.lateStores }], guard := none }, { dst := some 12, op := Op.load 4 (Operand.tmp 2), type := 4, pos := "parse.go:66", after := #[], guard := none }, { dst := some 13, op := Op.move (Operand.tmp 12), type := 4, pos := "parse.go:66", after := #[{ on := 2, ground := Ground.data }], guard := none }, { dst := some 14, op := Op.load 3 (Operand.tmp 1), type := 3, pos := "parse.go:66", after := #[{ on := 3, ground := Ground.guard }, { on := 10, ground := Ground.gcOnly Departure.lateStores }], guard := some (3, true) }, { dst := some 15, op := Op.load 9 (Operand.tmp 3), type := 9, pos := "parse.go:66", after := #[{ on := 3, ground := Ground.guard }], guard := some (3, true) }, { dst := some 16, op := Op.call { callee := Callee.builtin Builtin.len, args := #[Operand.tmp 15], argTypes := #[9] }, type := 3, pos := "parse.go:66", after := #[{ on := 5, ground := Ground.data }, { on := 3, ground := Ground.guard }], guard := some (3, true) }, { dst := some 17, op := Op.binOp BinOp.eql 3 (Operand.tmp 14) (Operand.tmp 16) 3, type := 4, pos := "parse.go:66", after := #[{ on := 4, ground := Ground.data }, { on := 6, ground := Ground.data }, { on := 3, ground := Ground.guard }, { on := 10, ground := Ground.gcOnly Departure.lateStores }], guard := some (3, true) }, { dst := some 18, op := Op.pick (Operand.tmp 13) (Operand.tmp 17) (Operand.const (Value.bool false)), type := 4, pos := "parse.go:66", after := #[{ on := 3, ground := Ground.data }, { on := 7, ground := Ground.data }, { on := 10, ground := Ground.gcOnly Departure.lateStores }], guard := none }, { dst := none, op := Op.store 27 (Operand.tmp 4) (Operand.tmp 10), type := 0, pos := "parse.go:66", after := #[{ on := 0, ground := Ground.data }, { on := 3, ground := Ground.chain }, { on := 0, ground := Ground.phase }, { on := 1, ground := Ground.textOnly Departure.lateStores }, { on := 2, ground := Ground.textOnly Departure.lateStores }, { on := 3, ground := Ground.textOnly Departure.lateStores }, { on := 4, ground := Ground.textOnly Departure.lateStores }, { on := 5, ground := Ground.textOnly Departure.lateStores }, { on := 6, ground := Ground.textOnly Departure.lateStoresUnsure }, { on := 7, ground := Ground.textOnly Departure.lateStores }, { on := 8, ground := Ground.textOnly Departure.lateStores }], guard := none }, { dst := some 5, op := Op.assign (Operand.tmp 11), type := 3, pos := "parse.go:66", after := #[{ on := 1, ground := Ground.data }, { on := 9, ground := Ground.chain }, { on := 0, ground := Ground.phase }, { on := 1, ground := Ground.phase }, { on := 2, ground := Ground.textOnly Departure.lateStores }, { on := 3, ground := Ground.textOnly Departure.lateStores }, { on := 4, ground := Ground.textOnly Departure.lateStores }, { on := 5, ground := Ground.textOnly Departure.lateStores }, { on := 6, ground := Ground.textOnly Departure.lateStoresUnsure }, { on := 7, ground := Ground.textOnly Departure.lateStores }, { on := 8, ground := Ground.textOnly Departure.lateStores }, { on := 9, ground := Ground.phase }], guard := none }, { dst := some 6, op := Op.assign (Operand.tmp 18), type := 4, pos := "parse.go:66", after := #[{ on := 8, ground := Ground.data }, { on := 10, ground := Ground.chain }, { on := 0, ground := Ground.phase }, { on := 1, ground := Ground.phase }, { on := 2, ground := Ground.phase }, { on := 3, ground := Ground.phase }, { on := 4, ground := Ground.phase }, { on := 5, ground := Ground.phase }, { on := 6, ground := Ground.phase }, { on := 7, ground := Ground.phase }, { on := 8, ground := Ground.phase }, { on := 9, ground := Ground.phase }, { on := 10, ground := Ground.phase }], guard := none }] true).wp Tryz.prog Q { tmps := (List.toArray ((.pointer (some ⟨n + 4, 0, none⟩) :: .pointer (some ⟨n + 1, 0, none⟩) :: .pointer (some ⟨n + 3, 0, none⟩) :: .pointer (some ⟨n, 0, none⟩) :: .pointer (some ⟨g, 0, none⟩) :: u5 :: u6 :: .pointer (some ⟨g2, 0, none⟩) :: u8 :: u9 :: u10 :: u11 :: u12 :: u13 :: u14 :: u15 :: u16 :: u17 :: u18 :: []) : List Value)), defers := [] } w := by
  replace h := hide h
  refine wp_region_noPanic ?_
  refine wp_region_held_drew (S := (fun w' => w'.cell? ⟨n + 1, 0, none⟩ = some (.int .i64 (a : Int)) ∧ w'.cell? ⟨n + 3, 0, none⟩ = some (.bool false) ∧ w'.cell? ⟨n, 0, none⟩ = some (.string s) ∧ (loadVar 27 ⟨g2, 0, none⟩).run Tryz.prog w' = .ok (reV k sx l mn mx) w')) (by kernel_rfl) ⟨d1, d2, d3, d4 1⟩ (fun hH0 => ?_)
  refine wpAnyH_take (i := 0) (oi := { dst := some 10, op := Op.load 27 (Operand.tmp 7), type := 27, pos := "parse.go:66", after := #[], guard := none }) (v := reV k sx l mn mx) rfl (by kernel_rfl) (by kernel_rfl) (by kernel_rfl) (fun _ _ _ h => h) (Or.inl ⟨by rfl, fun w' hw' => run_ld28 rfl hw'.2.2.2⟩) hH0 ?_
  try simp only [Act.put, List.setIfInBounds_toArray, List.set_cons_zero, List.set_cons_succ]
  refine wpAnyH_take (i := 1) (oi := { dst := some 11, op := Op.load 3 (Operand.tmp 1), type := 3, pos := "parse.go:66", after := #[{ on := 9, ground := Ground.gcOnly Departure.lateStores }], guard := none }) (v := ?_) rfl (by kernel_rfl) (by kernel_rfl) (by kernel_rfl) (fun _ _ _ h => h) (Or.inl ⟨by rfl, ?_⟩) hH0 ?_
  rotate_left
  · intro w' hw'
    obtain ⟨c1, c2, c3, c4⟩ := hw'
    go_simp
    try with_reducible rfl
  try simp only [Act.put, List.setIfInBounds_toArray, List.set_cons_zero, List.set_cons_succ]
  refine wpAnyH_take (i := 2) (oi := { dst := some 12, op := Op.load 4 (Operand.tmp 2), type := 4, pos := "parse.go:66", after := #[], guard := none }) (v := ?_) rfl (by kernel_rfl) (by kernel_rfl) (by kernel_rfl) (fun _ _ _ h => h) (Or.inl ⟨by rfl, ?_⟩) hH0 ?_
  rotate_left
  · intro w' hw'
    obtain ⟨c1, c2, c3, c4⟩ := hw'
    go_simp
    try with_reducible rfl
  try simp only [Act.put, List.setIfInBounds_toArray, List.set_cons_zero, List.set_cons_succ]
  refine wpAnyH_take (i := 3) (oi := { dst := some 13, op := Op.move (Operand.tmp 12), type := 4, pos := "parse.go:66", after := #[{ on := 2, ground := Ground.data }], guard := none }) (v := ?_) rfl (by kernel_rfl) (by kernel_rfl) (by kernel_rfl) (fun _ _ _ h => h) (Or.inl ⟨by rfl, ?_⟩) hH0 ?_
  rotate_left
  · intro w' hw'
    obtain ⟨c1, c2, c3, c4⟩ := hw'
    go_simp
    try with_reducible rfl
  try simp only [Act.put, List.setIfInBounds_toArray, List.set_cons_zero, List.set_cons_succ]
  refine wpAnyH_take (i := 4) (oi := { dst := some 14, op := Op.load 3 (Operand.tmp 1), type := 3, pos := "parse.go:66", after := #[{ on := 3, ground := Ground.guard }, { on := 10, ground := Ground.gcOnly Departure.lateStores }], guard := some (3, true) }) (v := undef) rfl (by kernel_rfl) (by kernel_rfl) (by kernel_rfl) (fun _ _ _ h => h) (Or.inr ⟨by rfl, rfl⟩) hH0 ?_
  try simp only [Act.put, List.setIfInBounds_toArray, List.set_cons_zero, List.set_cons_succ]
  refine wpAnyH_take (i := 5) (oi := { dst := some 15, op := Op.load 9 (Operand.tmp 3), type := 9, pos := "parse.go:66", after := #[{ on := 3, ground := Ground.guard }], guard := some (3, true) }) (v := undef) rfl (by kernel_rfl) (by kernel_rfl) (by kernel_rfl) (fun _ _ _ h => h) (Or.inr ⟨by rfl, rfl⟩) hH0 ?_
  try simp only [Act.put, List.setIfInBounds_toArray, List.set_cons_zero, List.set_cons_succ]
  refine wpAnyH_take (i := 6) (oi := { dst := some 16, op := Op.call { callee := Callee.builtin Builtin.len, args := #[Operand.tmp 15], argTypes := #[9] }, type := 3, pos := "parse.go:66", after := #[{ on := 5, ground := Ground.data }, { on := 3, ground := Ground.guard }], guard := some (3, true) }) (v := undef) rfl (by kernel_rfl) (by kernel_rfl) (by kernel_rfl) (fun _ _ _ h => h) (Or.inr ⟨by rfl, rfl⟩) hH0 ?_
  try simp only [Act.put, List.setIfInBounds_toArray, List.set_cons_zero, List.set_cons_succ]
  refine wpAnyH_take (i := 7) (oi := { dst := some 17, op := Op.binOp BinOp.eql 3 (Operand.tmp 14) (Operand.tmp 16) 3, type := 4, pos := "parse.go:66", after := #[{ on := 4, ground := Ground.data }, { on := 6, ground := Ground.data }, { on := 3, ground := Ground.guard }, { on := 10, ground := Ground.gcOnly Departure.lateStores }], guard := some (3, true) }) (v := undef) rfl (by kernel_rfl) (by kernel_rfl) (by kernel_rfl) (fun _ _ _ h => h) (Or.inr ⟨by rfl, rfl⟩) hH0 ?_
  try simp only [Act.put, List.setIfInBounds_toArray, List.set_cons_zero, List.set_cons_succ]
  refine wpAnyH_take (i := 8) (oi := { dst := some 18, op := Op.pick (Operand.tmp 13) (Operand.tmp 17) (Operand.const (Value.bool false)), type := 4, pos := "parse.go:66", after := #[{ on := 3, ground := Ground.data }, { on := 7, ground := Ground.data }, { on := 10, ground := Ground.gcOnly Departure.lateStores }], guard := none }) (v := ?_) rfl (by kernel_rfl) (by kernel_rfl) (by kernel_rfl) (fun _ _ _ h => h) (Or.inl ⟨by rfl, ?_⟩) hH0 ?_
  rotate_left
  · intro w' hw'
    obtain ⟨c1, c2, c3, c4⟩ := hw'
    go_simp
    try with_reducible rfl
  try simp only [Act.put, List.setIfInBounds_toArray, List.set_cons_zero, List.set_cons_succ]
  refine wpAnyH_ready (rs := [9]) (by kernel_rfl) (by simp) ?_
  refine AllReadyH.cons (o := { dst := none, op := Op.store 27 (Operand.tmp 4) (Operand.tmp 10), type := 0, pos := "parse.go:66", after := #[{ on := 0, ground := Ground.data }, { on := 3, ground := Ground.chain }, { on := 0, ground := Ground.phase }, { on := 1, ground := Ground.textOnly Departure.lateStores }, { on := 2, ground := Ground.textOnly Departure.lateStores }, { on := 3, ground := Ground.textOnly Departure.lateStores }, { on := 4, ground := Ground.textOnly Departure.lateStores }, { on := 5, ground := Ground.textOnly Departure.lateStores }, { on := 6, ground := Ground.textOnly Departure.lateStoresUnsure }, { on := 7, ground := Ground.textOnly Departure.lateStores }, { on := 8, ground := Ground.textOnly Departure.lateStores }], guard := none }) rfl (fun K hK => ?_) AllReadyH.nil
  rw [if_pos (by rfl)]
  refine wp_storeV rfl rfl rfl d5 ?_
  refine hK.out _ _ ⟨e1, e2, e3, e4⟩ (fun hH1 => ?_)
  clear hK
  try simp only [Act.put, List.setIfInBounds_toArray, List.set_cons_zero, List.set_cons_succ]
  refine wpAnyH_take (i := 10) (oi := { dst := some 5, op := Op.assign (Operand.tmp 11), type := 3, pos := "parse.go:66", after := #[{ on := 1, ground := Ground.data }, { on := 9, ground := Ground.chain }, { on := 0, ground := Ground.phase }, { on := 1, ground := Ground.phase }, { on := 2, ground := Ground.textOnly Departure.lateStores }, { on := 3, ground := Ground.textOnly Departure.lateStores }, { on := 4, ground := Ground.textOnly Departure.lateStores }, { on := 5, ground := Ground.textOnly Departure.lateStores }, { on := 6, ground := Ground.textOnly Departure.lateStoresUnsure }, { on := 7, ground := Ground.textOnly Departure.lateStores }, { on := 8, ground := Ground.textOnly Departure.lateStores }, { on := 9, ground := Ground.phase }], guard := none }) (v := ?_) rfl (by kernel_rfl) (by kernel_rfl) (by kernel_rfl) (fun _ _ _ h => h) (Or.inl ⟨by rfl, ?_⟩) hH1 ?_
  rotate_left
  · intro w' hw'
    obtain ⟨c1, c2, c3, c4⟩ := hw'
    go_simp
    try with_reducible rfl
  try simp only [Act.put, List.setIfInBounds_toArray, List.set_cons_zero, List.set_cons_succ]
  refine wpAnyH_take (i := 11) (oi := { dst := some 6, op := Op.assign (Operand.tmp 18), type := 4, pos := "parse.go:66", after := #[{ on := 8, ground := Ground.data }, { on := 10, ground := Ground.chain }, { on := 0, ground := Ground.phase }, { on := 1, ground := Ground.phase }, { on := 2, ground := Ground.phase }, { on := 3, ground := Ground.phase }, { on := 4, ground := Ground.phase }, { on := 5, ground := Ground.phase }, { on := 6, ground := Ground.phase }, { on := 7, ground := Ground.phase }, { on := 8, ground := Ground.phase }, { on := 9, ground := Ground.phase }, { on := 10, ground := Ground.phase }], guard := none }) (v := ?_) rfl (by kernel_rfl) (by kernel_rfl) (by kernel_rfl) (fun _ _ _ h => h) (Or.inl ⟨by rfl, ?_⟩) hH1 ?_
  rotate_left
  · intro w' hw'
    obtain ⟨c1, c2, c3, c4⟩ := hw'
    go_simp
    try with_reducible rfl
  try simp only [Act.put, List.setIfInBounds_toArray, List.set_cons_zero, List.set_cons_succ]
  refine wpAnyH_done (by kernel_rfl) ?_ _
  refine NoPanic.normal ?_
  exact h.out
theorem store28r {w : World} {g : Nat} {n : Int} {s : S4} {l : Value} {mn mx : Int} {n' : Int} {s' : S4} {l' : Value} {mn' mx' : Int} (h : w.heap[g]? = some (.cells (reA n s l mn mx) 27 (0, 0))) (hl : l'.oneCell' = true) : (storeVar 27 ⟨g, 0, none⟩ (reV n' s' l' mn' mx')).run Tryz.prog w = .ok () (w.setRow g (reA n' s' l' mn' mx')) :=
  run_storeVar_row w g 27 27 _ _ h size28 rfl (by have h1 : ∀ k n, (Value.int k n).oneCell' = true := fun _ _ => rfl; simp [reA, hl, h1])
/-- How the last closure ends. -/
def PostP (w : World) (s : ByteArray) (res : Except Nat Tr) (e : Ending) (w' : World) : Prop := ∃ x a' b, e = .returned (.tuple #[x, .int .i64 ((a' : Nat) : Int), .bool b]) ∧ Below w.heap.size w w' ∧ (∃ t, TrV w' (fun b => w.heap.size ≤ b) x t ∧ (match res with
  | .error p => b = false ∧ a' = p
  | .ok t' => b = true ∧ t = t'))
def parseE (s : ByteArray) (r : Out) : Except Nat Tr := match r with
  | .error p => .error p
  | .ok (t, d) => if d = s.size then .ok t else .error d
theorem parseM_eq (s : ByteArray) : parseM s = parseE s (altM (brM s 32) s 0) := rfl
set_option maxHeartbeats 8000000 in
theorem run_any (w0 : World) (n : Nat) (hn : 0 < n) (hw0 : w0.heap.size = n) (s : ByteArray) (hs : s.size ≤ 256) (w : World) (hT : Tab w) (hE : Ev w n s 0 0 true) (hB : Below n w0 w) :
    Calls Tryz.prog 125 #[.pointer (some ⟨n + 4, 0, none⟩), .pointer (some ⟨n + 1, 0, none⟩), .pointer (some ⟨n + 3, 0, none⟩), .pointer (some ⟨n, 0, none⟩)] w (PostP w0 s (parseM s)) := by
  have H : St (S3 n) w w (env n s 0 0 true) := hE.st
  have hE8 := hE.lt
  have PA := hide (fun w hT hE => alt_any n hn s hs 0 (brM s 32) (br_any n hn s hs 32 (Nat.le_refl _)) 97 (by omega) (br_good s 32) w hT 0 (Nat.zero_le _) hE)
  rw [parseM_eq]
  generalize altM (brM s 32) s 0 = rA at PA ⊢
  generalize hres : parseE s rA = res
  replace hres := hide hres
  go_enter Tryz.func125, Tryz.ntmps125
  go_wp2_with (first | (with_reducible refine at_alloc 27 ?_; refine wl_alloc28 H ?_; clear H; intro g w' H q1 q2) | (with_reducible refine at_load 9 ?_; first | (refine wl_ld9 4 0 H rfl rfl rfl ?_)) | (with_reducible refine at_load 3 ?_; first | (refine wl_ld3 1 0 H rfl rfl rfl ?_)) | (with_reducible refine at_load 4 ?_; first | (refine wl_ld4 3 0 H rfl rfl rfl ?_)) | (with_reducible refine at_load 183 ?_; first | (refine wl_ld59 5 0 H rfl rfl rfl ?_; simp only [brF, atF, piF, seF, alF]) | (refine wl_ld59 6 0 H rfl rfl rfl ?_; simp only [brF, atF, piF, seF, alF]) | (refine wl_ld59 7 0 H rfl rfl rfl ?_; simp only [brF, atF, piF, seF, alF]) | (refine wl_ld59 8 0 H rfl rfl rfl ?_; simp only [brF, atF, piF, seF, alF]) | (refine wl_ld59 9 0 H rfl rfl rfl ?_; simp only [brF, atF, piF, seF, alF])))
  have hgl := H.lti 0 rfl
  have hs1 := H.but.size
  refine (PA.out _ (tab_st hT H hn) (St.ev (M := [_]) H)).mono ?_
  rintro e w2 ⟨x, t, a', o', r, rfl, T, E2, B2, A2⟩
  have W2 := St.closure (M := [_]) H B2 (fun i _ h => h) E2
  have hs2 := B2.size
  clear H PA
  have H := St.rebaseE (M := [_]) W2 (fun k => k = g) (fun x hx => by simp only [List.mem_cons, List.not_mem_nil, or_false] at hx; subst hx; rfl)
  obtain ⟨va, vn, vc, hx⟩ := T.val
  subst hx
  go_wp2_with (first | (with_reducible refine at_alloc 27 ?_; refine wl_alloc28 H ?_; clear H; intro g2 w' H q3 q4) | (with_reducible refine at_store 27 ?_; refine wl_store28 0 H rfl rfl rfl rfl ?_; clear H; intro w' H))
  have keep : Hid (∀ w', But (fun k => S3 n k ∨ k = g) w2 w' → TrV w' (fun b => w0.heap.size ≤ b) (reV t.1.k t.1.s (.slice va vn vc) t.1.mn t.1.mx) t) := fun w' hb =>
    ((T.mono (P' := fun b => w0.heap.size ≤ b ∧ b ≠ g ∧ ¬ S3 n b) (fun b hb hP => by simp only [S3]; omega)).kept (fun b hP hl => hb.block b hl (fun h => by rcases h with h | h; exact hP.2.2 h; exact hP.2.1 h))).mono (fun b _ hP => hP.1)
  have fin : Hid (∀ w', But (fun k => S3 n k ∨ k = g) w2 w' → Below w0.heap.size w0 w') := fun w' hb => by
    rw [hw0]
    exact hB.trans ((W2.but.trans hb (fun i hi h => by rcases h with h | h; exact h; omega)).below (by omega) (fun k hk => by simp only [S3] at hk; omega))
  clear T B2 E2 W2
  have H2 := (H.drew).setRow 1 rfl (reA t.1.k t.1.s (.slice va vn vc) t.1.mn t.1.mx)
  have d1 := H.cell 2 0 rfl (v := .int .i64 (a' : Int)) rfl
  have d2 := H.cell 4 0 rfl (v := .bool r) rfl
  have d3 := H.cell 5 0 rfl (v := .string s) rfl
  have d4 := fun m => load28 ((H.drewN m).get 0 rfl)
  have d5 := store28r ((H.drew).get 1 rfl) (n' := t.1.k) (s' := t.1.s) (l' := .slice va vn vc) (mn' := t.1.mn) (mx' := t.1.mx) rfl
  have e1 := H2.cell 2 0 rfl (v := .int .i64 (a' : Int)) rfl
  have e2 := H2.cell 4 0 rfl (v := .bool r) rfl
  have e3 := H2.cell 5 0 rfl (v := .string s) rfl
  have e4 := load28 (H2.get 0 rfl)
  cases r with
  | false =>
    have hr : res = .error a' := by
      cases rA with
      | error p => obtain ⟨-, rfl⟩ := A2; exact hres.out.symm
      | ok td => obtain ⟨t', d⟩ := td; obtain ⟨h, -⟩ := A2; cases h
    refine reg37f _ _ n g g2 a' s t.1.k t.1.s (.slice va vn vc) t.1.mn t.1.mx _ rfl d1 d2 d3 d4 d5 e1 e2 e3 e4 _ _ _ _ _ _ _ _ _ _ _ _ _ _ ?_
    replace d4 := hide d4
    clear d1 d2 d3 d4 d5 e1 e2 e3 e4 hres
    go_wp2_with fail
    refine bodyPost_ret (results_cell2 rfl _ _ _ _ rfl (load28 (H2.get 1 rfl))) rfl ?_
    refine ⟨_, a', false, rfl, fin.out _ H2.but, t, keep.out _ H2.but, ?_⟩
    rw [hr]
    exact ⟨rfl, rfl⟩
  | true =>
    obtain ⟨d, rfl, hdd⟩ : ∃ d, rA = .ok (t, d) ∧ a' = d := by
      cases rA with
      | error p => obtain ⟨h, -⟩ := A2; cases h
      | ok td => obtain ⟨t', d⟩ := td; obtain ⟨-, h2, h3, -⟩ := A2; exact ⟨d, by rw [h3], h2⟩
    subst hdd
    simp only [parseE] at hres
    obtain ⟨b, hb⟩ : ∃ b, ((a' : Int) == (s.size : Int)) = b := ⟨_, rfl⟩
    refine reg37t _ _ n g g2 a' s t.1.k t.1.s (.slice va vn vc) t.1.mn t.1.mx b hb d1 d2 d3 d4 d5 e1 e2 e3 e4 _ _ _ _ _ _ _ _ _ _ _ _ _ _ ?_
    replace d4 := hide d4
    replace hb := hide hb
    clear d1 d2 d3 d4 d5 e1 e2 e3 e4
    go_wp2_with fail
    refine bodyPost_ret (results_cell2 rfl _ _ _ _ rfl (load28 (H2.get 1 rfl))) rfl ?_
    refine ⟨_, a', b, rfl, fin.out _ H2.but, t, keep.out _ H2.but, ?_⟩
    rw [← hres.out]
    by_cases hq : a' = s.size
    · rw [if_pos hq]
      exact ⟨by rw [← hb.out, hq]; simp, rfl⟩
    · rw [if_neg hq]
      exact ⟨by rw [← hb.out]; exact beq_eq_false_iff_ne.2 (by omega), rfl⟩
open Go.RowKit
set_option linter.unusedVariables false
set_option linter.unusedSimpArgs false

def zeroRe : Value := reV 0 noSet (.slice none 0 0) 0 0
/-- What Parse answers. -/
def ParseP (w : World) (s : ByteArray) (e : Ending) (w' : World) : Prop := Below w.heap.size w w' ∧
  ((256 < s.size ∧ e = .returned (.tuple #[zeroRe, .int .i64 0, .int .i64 3])) ∨
   (s.size ≤ 256 ∧ ((∃ p, parseM s = .error p ∧ e = .returned (.tuple #[zeroRe, .int .i64 (p : Int), .int .i64 100])) ∨
     (∃ x t, parseM s = .ok t ∧ e = .returned (.tuple #[x, .int .i64 0, .int .i64 0]) ∧ TrV w' (fun b => w.heap.size ≤ b) x t))))
set_option maxHeartbeats 8000000 in
theorem parse_any (s : ByteArray) (w : World) (hT : Tab w) : Calls Tryz.prog 31 #[.string s] w (ParseP w s) := by
  have H := St.start Nope w
  by_cases h256 : 256 < s.size
  · have i1 : (256 : Int) < (s.size : Int) := by omega
    go_enter Tryz.func31, Tryz.ntmps31
    go_wp2_with (first | (with_reducible refine at_alloc 27 ?_; refine wl_alloc28 H ?_; clear H; intro g w' H q1 q2) | (with_reducible refine at_store 27 ?_; refine wl_store28 0 (n' := 0) (s' := noSet) (l' := .slice none 0 0) (mn' := 0) (mx' := 0) H rfl rfl rfl rfl ?_; clear H; intro w' H))
    refine bodyPost_ret (results_cell2 rfl _ _ _ _ rfl (load28 (H.get 0 rfl))) rfl ?_
    exact ⟨H.below, .inl ⟨h256, rfl⟩⟩
  · have i1 : ¬ ((256 : Int) < (s.size : Int)) := by omega
    have hs : s.size ≤ 256 := by omega
    replace h256 := hide h256
    go_enter Tryz.func31, Tryz.ntmps31
    go_wp2_with (first | (with_reducible refine at_alloc 27 ?_; refine wl_alloc28 H ?_; clear H; intro g w' H q1 q2))
    have hT1 := hT.st H (fun _ _ h => h)
    have hp := hT1.pos
    have hg := H.lti 0 rfl
    generalize hz : w'.heap.size = n at *
    refine (parser_any s w' n hz).mono ?_
    rintro e w1 ⟨rfl, E1, B1⟩
    have hT2 := hT1.kept B1 (by omega)
    have hs1 := E1.lt
    go_wp2_with fail
    refine (run_any w' n (by omega) hz s hs w1 hT2 E1 B1).mono ?_
    rintro e w2 ⟨x, a', b, rfl, B2, t, T, A⟩
    have W2 := H.call B2 (by omega)
    have hs2 := B2.size
    clear H
    have H := W2.rebase (fun k => k = g) (fun x hx _ => by simp only [List.mem_cons, List.not_mem_nil, or_false] at hx; subst hx; rfl)
    obtain ⟨va, vn, vc, hx⟩ := T.val
    subst hx
    have fin : Hid (∀ w', But (fun k => k = g) w2 w' → Below w.heap.size w w') := fun w' hb => (W2.but.trans hb (fun i hi h => by omega)).below (Nat.le_refl _) (fun k hk => hk.elim)
    have hsz0 := W2.but.size
    have keep : Hid (∀ w', But (fun k => k = g) w2 w' → TrV w' (fun b => w.heap.size ≤ b) (reV t.1.k t.1.s (.slice va vn vc) t.1.mn t.1.mx) t) := fun w' hb =>
      ((T.mono (P' := fun b => w.heap.size ≤ b ∧ b ≠ g) (fun b hb hP => by omega)).kept (fun b hP hl => hb.block b hl (fun h => hP.2 h))).mono (fun b _ hP => hP.1)
    clear T W2 B2 B1 E1 hT2 hT1
    cases hR : parseM s with
    | error p =>
      rw [hR] at A
      obtain ⟨rfl, rfl⟩ := A
      go_wp2_with (first | (with_reducible refine at_alloc 27 ?_; refine wl_alloc28 H ?_; clear H; intro g5 w' H q1 q2) | (with_reducible refine at_store 27 ?_; first | (refine wl_store28 0 H rfl rfl rfl rfl ?_; clear H; intro w' H) | (refine wl_store28 1 (n' := 0) (s' := noSet) (l' := .slice none 0 0) (mn' := 0) (mx' := 0) H rfl rfl rfl rfl ?_; clear H; intro w' H)))
      refine bodyPost_ret (results_cell2 rfl _ _ _ _ rfl (load28 (H.get 1 rfl))) rfl ?_
      exact ⟨fin.out _ H.but, .inr ⟨hs, .inl ⟨a', hR, rfl⟩⟩⟩
    | ok t' =>
      rw [hR] at A
      obtain ⟨rfl, rfl⟩ := A
      go_wp2_with (first | (with_reducible refine at_alloc 27 ?_; refine wl_alloc28 H ?_; clear H; intro g5 w' H q1 q2) | (with_reducible refine at_load 27 ?_; refine wl_load28 0 H rfl rfl ?_) | (with_reducible refine at_store 27 ?_; first | (refine wl_store28 0 H rfl rfl rfl rfl ?_; clear H; intro w' H) | (refine wl_store28 1 H rfl rfl rfl rfl ?_; clear H; intro w' H)))
      refine bodyPost_ret (results_cell2 rfl _ _ _ _ rfl (load28 (H.get 1 rfl))) rfl ?_
      exact ⟨fin.out _ H.but, .inr ⟨hs, .inr ⟨_, t, hR, rfl, keep.out _ H.but⟩⟩⟩
end Go.Proofs.YtnffbmipllhjdaaGreatDoor

namespace Go.Proofs.YtnffbmipllhjdaaGreatDoor
open Go.RowKit Go.Shelf
set_option linter.unusedVariables false
set_option linter.unusedSimpArgs false
attribute [local go_sem] Oper.semAt_some

section
variable {F : Fence} {n : Nat} {w w' : World} {ops : Array Oper} {rest : List Oper} {a : Act} {Q : Exit → Act → World → Prop} {dst : Option Nat} {x y : Operand} {ty : TypeId} {pos : String} {after : Array Edge}
theorem wlI_val {op : Op} {v : Value} (hF : ∀ f, F.fn f) (hd : ∀ c, op ≠ .defer c) (hrun : (execOp a.eval ⟨dst, op, ty, pos, after, none⟩).run Tryz.prog w = .ok (.value v) w') (h : wpListIn F n Tryz.prog ops Q rest (a.put dst v) w') : wpListIn F n Tryz.prog ops Q (⟨dst, op, ty, pos, after, none⟩ :: rest) a w := by
  refine wpListIn_plain rfl fun K hK => ?_
  unfold Oper.wpIn
  refine ⟨fun f _ => hF f, ?_⟩
  rw [Oper.semAt_plain F _ _ (fun c => hd c), hrun]
  exact hK _ _ h
theorem wlI_skip {op : Op} (hF : ∀ f, F.fn f) (hd : ∀ c, op ≠ .defer c) (hrun : (execOp a.eval ⟨none, op, ty, pos, after, none⟩).run Tryz.prog w = .ok .skip w') (h : wpListIn F n Tryz.prog ops Q rest a w') : wpListIn F n Tryz.prog ops Q (⟨none, op, ty, pos, after, none⟩ :: rest) a w := by
  refine wpListIn_plain rfl fun K hK => ?_
  unfold Oper.wpIn
  refine ⟨fun f _ => hF f, ?_⟩
  rw [Oper.semAt_plain F _ _ (fun c => hd c), hrun]
  exact hK _ _ h
theorem atI_load (t : TypeId) (h : wpListIn F n Tryz.prog ops Q (⟨dst, .load t x, ty, pos, after, none⟩ :: rest) a w) : wpListIn F n Tryz.prog ops Q (⟨dst, .load t x, ty, pos, after, none⟩ :: rest) a w := h
theorem atI_box (t : TypeId) (h : wpListIn F n Tryz.prog ops Q (⟨dst, .box t x, ty, pos, after, none⟩ :: rest) a w) : wpListIn F n Tryz.prog ops Q (⟨dst, .box t x, ty, pos, after, none⟩ :: rest) a w := h
theorem wlI_load (t : TypeId) {ad : Addr} {v : Value} (hF : ∀ f, F.fn f) (hx : a.eval x = .pointer (some ad)) (hl : (loadVar t ad).run Tryz.prog w = .ok v w) (k : wpListIn F n Tryz.prog ops Q rest (a.put dst v) w) : wpListIn F n Tryz.prog ops Q (⟨dst, .load t x, ty, pos, after, none⟩ :: rest) a w := by
  refine wlI_val hF (fun c => nofun) ?_ k
  unfold execOp
  simp only [hx, Instr.loadAt, Instr.sureAddr, Sem.run_bind, Sem.run_pure, Result.andThen_ok, hl]
theorem wlI_box28 (hF : ∀ f, F.fn f) {m : Int} {s : S4} {l : Value} {mn mx : Int} (hx : a.eval x = reV m s l mn mx) (h : ∀ g w', w'.heap[g]? = some (.cells (reA m s l mn mx) 27 (0, 0)) → Below w.heap.size w w' → w.heap.size ≤ g → wpListIn F n Tryz.prog ops Q rest (a.put dst (.pointer (some ⟨g, 0, none⟩))) w') : wpListIn F n Tryz.prog ops Q (⟨dst, .box 27 x, ty, pos, after, none⟩ :: rest) a w :=
  wlI_val hF (fun c => nofun) (run_box28 _ _ _ _ _ _ m s l mn mx hx w) (h _ _ (heap_alloc_new w _) ((Below.refl _ w).alloc (Nat.le_refl _) _) (Nat.le_refl _))
/-- A box is made and at once filled. -/
theorem atI_new28 {d : Nat} {ty2 : TypeId} {pos2 : String} {after2 : Array Edge} (h : wpListIn F n Tryz.prog ops Q (⟨some d, .alloc 27, ty, pos, after, none⟩ :: ⟨none, .store 27 (.tmp d) y, ty2, pos2, after2, none⟩ :: rest) a w) : wpListIn F n Tryz.prog ops Q (⟨some d, .alloc 27, ty, pos, after, none⟩ :: ⟨none, .store 27 (.tmp d) y, ty2, pos2, after2, none⟩ :: rest) a w := h
theorem wlI_new28 {d : Nat} {ty2 : TypeId} {pos2 : String} {after2 : Array Edge} (hF : ∀ f, F.fn f) {m : Int} {s : S4} {l : Value} {mn mx : Int} (hl : l.oneCell' = true) (hd : ∀ u, (a.put (some d) u).eval (.tmp d) = u) (hy : ∀ u, (a.put (some d) u).eval y = reV m s l mn mx) (h : ∀ g w', w'.heap[g]? = some (.cells (reA m s l mn mx) 27 (0, 0)) → Below w.heap.size w w' → w.heap.size ≤ g → wpListIn F n Tryz.prog ops Q rest (a.put (some d) (.pointer (some ⟨g, 0, none⟩))) w') : wpListIn F n Tryz.prog ops Q (⟨some d, .alloc 27, ty, pos, after, none⟩ :: ⟨none, .store 27 (.tmp d) y, ty2, pos2, after2, none⟩ :: rest) a w := by
  refine wlI_val hF (fun c => nofun) (run_alloc28 _ _ _ _ _ w) ?_
  have hg := heap_alloc_new w (.cells (reA 0 noSet (.slice none 0 0) 0 0) 27)
  have e := store28r hg (n' := m) (s' := s) (l' := l) (mn' := mn) (mx' := mx) hl
  refine wlI_skip (w' := (w.alloc (.cells (reA 0 noSet (.slice none 0 0) 0 0) 27)).setRow w.heap.size (reA m s l mn mx)) hF (fun c => nofun) ?_ (h _ _ (setRow_heap _ _ _ _ 27 (0, 0) hg) ?_ (Nat.le_refl _))
  · unfold execOp
    simp only [hd, hy, Instr.storeAt, Instr.sureAddr, Sem.run_bind, Sem.run_pure, Result.andThen_ok, e]
  · refine ⟨rfl, rfl, rfl, by simp, fun k hk => ?_⟩
    rw [setRow_other _ _ _ _ (by omega)]
    exact Below.heap_alloc _ _ _ hk
end
/-- What is a row of cells and not in S lies as it lay. -/
def Kc (S : Nat → Prop) (W W' : World) : Prop := W.heap.size ≤ W'.heap.size ∧ ∀ k cs t fr, ¬ S k → W.heap[k]? = some (.cells cs t fr) → W'.heap[k]? = some (.cells cs t fr)
theorem Kc.refl (S : Nat → Prop) (W : World) : Kc S W W := ⟨Nat.le_refl _, fun _ _ _ _ _ h => h⟩
theorem Kc.trans {S : Nat → Prop} {A B C : World} (h : Kc S A B) (k : Kc S B C) : Kc S A C := ⟨Nat.le_trans h.1 k.1, fun i cs t fr hn e => k.2 i cs t fr hn (h.2 i cs t fr hn e)⟩
theorem Kc.below {S : Nat → Prop} {W W' : World} {B : Nat} (h : Below B W W') (hB : W.heap.size ≤ B) : Kc S W W' := ⟨h.size, fun k cs t fr _ e => by rw [h.block k (by have := (Array.getElem?_eq_some_iff.1 e).1; omega)]; exact e⟩
theorem owns8_kc {S : Nat → Prop} {w w' : World} {base n : Nat} {v : Value} {xs : List Value} (h : w.ownsRow base 27 8 v n xs) (hk : Kc S w w') (hb : ∀ b, v.ownBlock = some b → ¬ S b) : w'.ownsRow base 27 8 v n xs := by
  refine ⟨h.1, ?_⟩
  rcases h.2 with h1 | ⟨g, cap, cur, rfl, h2, h3, h4⟩
  · exact .inl h1
  · exact .inr ⟨g, cap, cur, rfl, h2, hk.2 g _ _ _ (hb g rfl) h3, h4⟩
theorem Kd.kc {S : Nat → Prop} {w w' : World} (hk : Kc S w w') : ∀ {f : Fo} {xs : List Value}, Kd w (fun b => ¬ S b) f xs → Kd w' (fun b => ¬ S b) f xs
  | .nil, _, h => h
  | .cons n kids rest, xs, ⟨v, ys, zs, e, o, p, k1, k2⟩ => ⟨v, ys, zs, e, owns8_kc o hk p, p, Kd.kc hk k1, Kd.kc hk k2⟩
/-- The pattern i of a list. -/
def Fo.nth : Fo → Nat → Tr
  | .nil, _ => (⟨0, noSet, 0, 0⟩, .nil)
  | .cons n k _, 0 => (n, k)
  | .cons _ _ r, i + 1 => r.nth i
/-- How many Res the first i are. -/
def Fo.szTo (f : Fo) : Nat → Nat
  | 0 => 0
  | i + 1 => f.szTo i + szT (f.nth i)
theorem szTo_cons (n : Nd) (k r : Fo) : ∀ i, (Fo.cons n k r).szTo (i + 1) = szT (n, k) + r.szTo i
  | 0 => by simp [Fo.szTo, Fo.nth]
  | i + 1 => by rw [Fo.szTo, szTo_cons n k r i]; simp [Fo.szTo, Fo.nth]; omega
theorem szTo_len : ∀ f : Fo, f.szTo f.len = f.sz
  | .nil => rfl
  | .cons n k r => by rw [Fo.len, szTo_cons, szTo_len r]; simp [szT, Fo.sz]
theorem szTo_le (f : Fo) : ∀ i, i ≤ f.len → f.szTo i ≤ f.sz := by
  have mono : ∀ j i, f.szTo i ≤ f.szTo (i + j) := fun j => by
    induction j with
    | zero => intro i; exact Nat.le_refl _
    | succ j ih => intro i; have := ih i; show _ ≤ f.szTo (i + j) + _; omega
  intro i hi
  have := mono (f.len - i) i
  rw [show i + (f.len - i) = f.len by omega, szTo_len] at this
  exact this
/-- Each one of a list has the property, at its depth. -/
def AllF (Pr : Nat → Nd → Nat → Prop) : Nat → Fo → Prop
  | _, .nil => True
  | d, .cons n k r => Pr d n k.len ∧ AllF Pr (d + 1) k ∧ AllF Pr d r
theorem AllF.nth {Pr : Nat → Nd → Nat → Prop} {d : Nat} : ∀ {f : Fo}, AllF Pr d f → ∀ i, i < f.len → Pr d (f.nth i).1 (f.nth i).2.len ∧ AllF Pr (d + 1) (f.nth i).2
  | .nil, _, i, h => by simp [Fo.len] at h
  | .cons n k r, ⟨h1, h2, h3⟩, 0, _ => ⟨h1, h2⟩
  | .cons n k r, ⟨h1, h2, h3⟩, i + 1, h => AllF.nth h3 i (by simpa [Fo.len] using h)
theorem Kd.nth {w : World} {P : Nat → Prop} : ∀ {f : Fo} {xs : List Value}, Kd w P f xs → ∀ i, i < f.len → ∃ v zs, (∀ j u, (reA (f.nth i).1.k (f.nth i).1.s v (f.nth i).1.mn (f.nth i).1.mx)[j]? = some u → xs[i * 8 + j]? = some u) ∧ w.ownsRow 0 27 8 v (f.nth i).2.len zs ∧ (∀ b, v.ownBlock = some b → P b) ∧ Kd w P (f.nth i).2 zs
  | .nil, _, _, i, h => by simp [Fo.len] at h
  | .cons n k r, xs, ⟨v, ys, zs, e, o, p, k1, k2⟩, 0, _ => ⟨v, zs, fun j u hj => by
      rw [e, Nat.zero_mul, Nat.zero_add]
      have hj' : j < 8 := by
        have := (Array.getElem?_eq_some_iff.1 hj).1
        simpa [reA] using this
      rw [List.getElem?_append_left (by simp [reA]; exact hj')]
      simpa [Fo.nth] using hj, o, p, k1⟩
  | .cons n k r, xs, ⟨v, ys, zs, e, o, p, k1, k2⟩, i + 1, h => by
      obtain ⟨v', zs', h1, h2⟩ := Kd.nth k2 i (by simpa [Fo.len] using h)
      refine ⟨v', zs', fun j u hj => ?_, h2⟩
      rw [e, List.getElem?_append_right (by simp [reA]; omega)]
      have := h1 j u hj
      simp only [reA, List.length_cons, List.length_nil]
      rw [show (i + 1) * 8 + j - (0 + 1 + 1 + 1 + 1 + 1 + 1 + 1 + 1) = i * 8 + j by omega]
      exact this
/-- One that is handed out: how deep it stands, itself, its list's value. -/
structure Em (Pr : Nat → Nd → Nat → Prop) where
  d : Nat
  nd : Nd
  ad : Option Addr
  len : Nat
  cap : Nat
  h : Pr d nd len
def encE {Pr : Nat → Nd → Nat → Prop} (e : Em Pr) : Array Value := #[.int .i64 (e.d : Int), reV e.nd.k e.nd.s (.slice e.ad e.len e.cap) e.nd.mn e.nd.mx]
theorem below_grown {w w' : World} (hb : Below w.heap.size w w') : w.grownBy w' none := ⟨hb.os, hb.tape, hb.output, hb.size, fun k hk _ => hb.block k hk⟩
theorem abides_below {β : Type} {B : Nat} {J : β → World → Prop} (h : AbidesFrom B J) {s : β} {w w' : World} (hs : J s w) (hb : Below w.heap.size w w') : J s w' := h s w w' none hs (below_grown hb) (fun r e => by cases e)
theorem yield_wide {m m' : Nat} {l : Nat} {args : Array Value} {W : World} {R : Ending → World → Prop} (h : YieldAt Fence.wide m Tryz.prog l args W R) : YieldAt Fence.wide m' Tryz.prog l args W R := by
  obtain ⟨fn, tmps, assign, body, h1, h2, h3⟩ := h
  exact ⟨fn, tmps, assign, body, h1, h2, fun c cs _ => h3 c cs (room_wide _)⟩
open Go.RowKit Go.Shelf
set_option linter.unusedVariables false
set_option linter.unusedSimpArgs false
attribute [local go_sem] Oper.semAt_some

theorem cell_row {w : World} {g : Nat} {xs : Array Value} {t : TypeId} (h : w.heap[g]? = some (.cells xs t (0, 0))) (j : Nat) {v : Value} (hv : xs[j]? = some v) : w.cell? ⟨g, j, none⟩ = some v := by rw [cell_of_row w g j _ t (0, 0) h]; exact hv
theorem wide_fn (f : FuncId) : Fence.wide.fn f := by simp [Fence.wide]
theorem round_fn (l : Nat) (f : FuncId) : (Fence.wide.inRound l).fn f := by simp [Fence.wide, Fence.inRound]
theorem len_le_sz : ∀ f : Fo, f.len ≤ f.sz
  | .nil => Nat.le_refl _
  | .cons n k r => by have := len_le_sz r; simp only [Fo.len, Fo.sz]; omega
/-- How giving all of a pattern ends. -/
def GiveP {Pr : Nat → Nd → Nat → Prop} (S : Nat → Prop) (J Jx : List (Em Pr) → World → Prop) (pre : List (Em Pr)) (k : Nat) (W : World) (e : Ending) (W' : World) : Prop :=
  (e = .returned (.bool true) ∧ (∃ xs, xs.length = k ∧ J (pre ++ xs) W') ∧ Kc S W W') ∨ (e = .returned (.bool false) ∧ ∃ p, Jx p W')
set_option maxHeartbeats 8000000 in
set_option maxRecDepth 100000 in
theorem give_in {Pr : Nat → Nd → Nat → Prop} (S : Nat → Prop) (l Y G B0 : Nat) (J Jx : List (Em Pr) → World → Prop) (B : Nat) (hAJ : AbidesFrom B J) (NN : Nat)
    (hYY : ∀ m pre x W1, J pre W1 → pre.length < NN → YieldAt Fence.wide m Tryz.prog l (encE x) W1 fun e W' => (e = .returned (.bool true) ∧ J (pre ++ [x]) W' ∧ Kc S W1 W') ∨ (e = .returned (.bool false) ∧ Jx (pre ++ [x]) W'))
    (hYS : ¬ S Y) (hGS : ¬ S G) (hS : ∀ k, B0 ≤ k → ¬ S k) :
    ∀ N nd kids, szT (nd, kids) ≤ N → ∀ (n d : Nat) (W : World) (pre : List (Em Pr)) (v : Value) (zs : List Value), Hid (Pr d nd kids.len) → AllF Pr (d + 1) kids → W.ownsRow 0 27 8 v kids.len zs → (∀ b, v.ownBlock = some b → ¬ S b) → Kd W (fun b => ¬ S b) kids zs →
      W.heap[Y]? = some (.cells #[.func (.yield l) #[] #[]] 238 (0, 0)) → W.heap[G]? = some (.cells #[.func (.func 180) #[] #[.pointer (some ⟨Y, 0, none⟩), .pointer (some ⟨G, 0, none⟩)]] 238 (0, 0)) → Hid (J pre W) → pre.length + szT (nd, kids) ≤ NN → d + szT (nd, kids) ≤ 10000 → B0 ≤ W.heap.size →
      CallsIn Fence.wide n Tryz.prog 180 #[.int .i64 (d : Int), reV nd.k nd.s v nd.mn nd.mx, .pointer (some ⟨Y, 0, none⟩), .pointer (some ⟨G, 0, none⟩)] W (GiveP S J Jx pre (szT (nd, kids)) W) := by
  intro N
  induction N with
  | zero => intro nd kids h; simp [szT] at h
  | succ N ih =>
    intro nd kids hN n d W pre v zs hPr hA ho hp hk hYb hGb hJ hNN hd hB0
    obtain ⟨ad, cap, rfl, hc1, hc2⟩ := owns8_val ho
    have hpos : 1 ≤ szT (nd, kids) := by simp [szT]
    have hlen : kids.len ≤ 10000 := by have := len_le_sz kids; simp only [szT] at hd; omega
    have hAJ' := hide hAJ
    replace hA := hide hA
    replace hp := hide hp
    replace hk := hide hk
    replace hS := hide hS
    replace ih := hide ih
    replace ho := hide ho
    replace hYYh := hide hYY
    refine callsIn_of_wp Tryz.func180 rfl trivial ?_ rfl
    simp only [Tryz.ntmps180, List.size_toArray, List.length_cons, List.length_nil, Nat.reduceAdd, Nat.reduceSub, Array.replicate_succ, Array.replicate_zero, List.push_toArray, List.append_toArray, List.nil_append, List.cons_append]
    gi_wp2_with (first | ((with_reducible refine atI_box 27 ?_); go_loud (refine wlI_box28 wide_fn rfl ?_; intro g5 w1 hb5 B1 hge; have hJ1 := abides_below hAJ hJ.out B1; have hc1 := Kc.below (S := S) B1 (Nat.le_refl _); have hY1 := hc1.2 Y _ _ _ hYS hYb; have cY := cell_row hY1 0 (v := .func (.yield l) #[] #[]) rfl; obtain ⟨fn, tmps, assign, body, hy, hR⟩ := hYY (n - 1) pre ⟨d, nd, ad, kids.len, cap, hPr.out⟩ w1 hJ1 (by omega); simp only [encE] at hy; replace hb5 := hide hb5; replace B1 := hide B1; replace hJ1 := hide hJ1; replace hc1 := hide hc1; replace hY1 := hide hY1)) | ((with_reducible refine atI_load 238 ?_); refine wlI_load 238 wide_fn rfl (ld70 cY) ?_) | ((with_reducible refine atI_load 27 ?_); refine wlI_load 27 wide_fn rfl (load28 hb5.out) ?_))
    refine ⟨fun h => (by cases h), hR.mono ?_⟩
    rintro e W3 (⟨rfl, hJ3, hk3⟩ | ⟨rfl, hJx3⟩)
    · have hcc : Hid (Kc S W W3) := hc1.out.trans hk3
      have hb3 : Hid (W3.heap[g5]? = some (.cells (reA nd.k nd.s (.slice ad kids.len cap) nd.mn nd.mx) 27 (0, 0))) := hk3.2 g5 _ _ _ (hS.out g5 (by omega)) hb5.out
      have cL := cell_row hb3.out 5 (v := .slice ad kids.len cap) rfl
      have hG3 := hide (hcc.out.2 G _ _ _ hGS hGb)
      have hs3 := hcc.out.1
      have ho3 := hide (owns8_kc ho.out hcc.out hp.out)
      have hkd3 := hide (Kd.kc hcc.out hk.out)
      replace hk3 := hide hk3
      replace hJ3 := hide hJ3
      clear hy hR cY
      gi_wp2_with (first | ((with_reducible refine atI_load 25 ?_); refine wlI_load 25 wide_fn rfl (ld26 cL) ?_))
      gi_loopw [17] (fun i wr => ∃ k xs, i = .int .i64 ((k : Nat) : Int) ∧ k ≤ kids.len ∧ Hid (xs.length = 1 + kids.szTo k) ∧ Hid (J (pre ++ xs) wr) ∧ Hid (Kc S W3 wr)) (fun i _ => kids.len - (intOf i).toNat)
      case atStart => exact ⟨0, [⟨d, nd, ad, kids.len, cap, hPr.out⟩], rfl, Nat.zero_le _, (rfl : _ = _), hJ3, Kc.refl _ _⟩
      case round =>
        obtain ⟨k, xs, rfl, hkl, hxs, hJr, hkr⟩ := hrel
        by_cases hlt : k < kids.len
        · have i1 : (k : Int) < (kids.len : Int) := by omega
          have hltH := hide hlt
          have hor := owns8_kc ho3.out hkr.out hp.out
          have hkdr := Kd.kc hkr.out hkd3.out
          obtain ⟨cv, czs, hcells, cho, chp, chk⟩ := Kd.nth hkdr k hlt
          obtain ⟨cPr, cA⟩ := AllF.nth hA.out k hlt
          have hsz1 := szTo_le kids (k + 1) (by omega)
          have hsz2 : kids.szTo (k + 1) = kids.szTo k + szT (kids.nth k) := rfl
          generalize kids.nth k = ch at hcells cho chp chk cPr cA hsz2
          obtain ⟨cnd, ckids⟩ := ch
          simp only at hcells cho chp chk cPr cA
          have hb : ∃ b, ad = some ⟨b, 0, none⟩ ∧ ∀ j u, (reA cnd.k cnd.s cv cnd.mn cnd.mx)[j]? = some u → wr.cell? ⟨b, k * 8 + j, none⟩ = some u := by
            rcases hor.2 with ⟨h1, h2⟩ | ⟨g, cap', cur, hv, _⟩
            · omega
            · cases hv
              refine ⟨g, rfl, fun j u hj => ?_⟩
              have := hor.cells (g := g) rfl _ _ (hcells j u hj)
              rwa [add_plain, Nat.zero_add] at this
          obtain ⟨b, rfl, hcell⟩ := hb
          obtain ⟨ca, cc, hcv, _, _⟩ := owns8_val cho
          subst hcv
          have hl28 := hide (load28c hcell)
          have hsz3 : szT (nd, kids) = 1 + kids.sz := rfl
          have hGr := hkr.out.2 G _ _ _ hGS hG3.out
          have hYr := hkr.out.2 Y _ _ _ hYS (hk3.out.2 Y _ _ _ hYS hY1.out)
          have hsr := hkr.out.1
          have hxl := hxs.out
          replace hcells := hide hcells
          replace hcell := hide hcell
          replace cho := hide cho
          replace chp := hide chp
          replace chk := hide chk
          replace cPr := hide cPr
          replace cA := hide cA
          replace hor := hide hor
          replace hkdr := hide hkdr
          replace hGr := hide hGr
          replace hYr := hide hYr
          gi_wp2_with (first | ((with_reducible refine atI_load 27 ?_); refine wlI_load 27 wide_fn rfl (hl28.out) ?_) | ((with_reducible refine atI_new28 ?_); refine wlI_new28 wide_fn rfl (fun _ => rfl) (fun _ => rfl) ?_; intro g8 w8 hb8 B8 hg8; have hk8 := hide (Kc.below (S := S) B8 (Nat.le_refl _)); have cG := cell_row (hk8.out.2 G _ _ _ hGS hGr.out) 0 (v := .func (.func 180) #[] #[.pointer (some ⟨Y, 0, none⟩), .pointer (some ⟨G, 0, none⟩)]) rfl; have hl8 := hide (load28 hb8); replace hb8 := hide hb8; replace B8 := hide B8) | ((with_reducible refine atI_load 238 ?_); refine wlI_load 238 wide_fn rfl (ld70 cG) ?_) | ((with_reducible refine atI_load 27 ?_); refine wlI_load 27 wide_fn rfl (hl8.out) ?_))
          have hs8 := B8.out.size
          refine ⟨trivial, fun h => (by cases h), (ih.out cnd ckids (by omega) _ (d + 1) w8 (pre ++ xs) _ czs cPr.out cA.out (owns8_kc cho.out hk8.out chp.out) chp.out (Kd.kc hk8.out chk.out) (hk8.out.2 Y _ _ _ hYS hYr.out) (hk8.out.2 G _ _ _ hGS hGr.out) (abides_below hAJ hJr.out B8.out) (by rw [List.length_append]; omega) (by omega) (by omega)).mono ?_⟩
          rintro e W9 (⟨rfl, ⟨ys, hys, hJ9⟩, hk9⟩ | ⟨rfl, p, hJx9⟩)
          · have hJ10 : Hid (J (pre ++ (xs ++ ys)) W9) := by
              have := hJ9
              rw [List.append_assoc] at this
              exact this
            have hk10 : Hid (Kc S W3 W9) := hkr.out.trans (hk8.out.trans hk9)
            have hl10 : Hid ((xs ++ ys).length = 1 + kids.szTo (k + 1)) := by
              show (xs ++ ys).length = _
              rw [List.length_append, hxl, hys, hsz2]; omega
            clear hJ9 hk9 hys
            gi_wp2
            go_roundw
            case rel => exact ⟨k + 1, xs ++ ys, by go_num, hltH.out, hl10, hJ10, hk10⟩
            case measure => have := hltH.out; simp [intOf]; omega
          · gi_wp2
            go_ret
            exact .inr ⟨rfl, _, hJx9⟩
        · obtain rfl : k = kids.len := by omega
          gi_wp2
          go_ret
          exact .inl ⟨rfl, ⟨xs, by rw [hxs.out, szTo_len]; rfl, hJr.out⟩, hcc.out.trans hkr.out⟩
    · gi_wp2
      go_ret
      exact .inr ⟨rfl, _, hJx3⟩
set_option maxHeartbeats 4000000 in
theorem within_in (n : Nat) (k : Int) (s : S4) (l : Value) (mn mx : Int) (w : World) :
    CallsIn Fence.wide n Tryz.prog 128 #[reV k s l mn mx] w fun e w' => ∃ g, e = .returned (.func (.func 179) #[] #[.pointer (some ⟨g, 0, none⟩)]) ∧ w'.heap[g]? = some (.cells (reA k s l mn mx) 27 (0, 0)) ∧ Below w.heap.size w w' ∧ w.heap.size ≤ g := by
  have hmf : ∀ (fn : Fn) (first cap : Array Value) (w : World), (Instr.makeFunc fn first cap).run Tryz.prog w = .ok (.func fn first cap) w := fun _ _ _ _ => rfl
  refine callsIn_of_wp Tryz.func128 rfl trivial ?_ rfl
  simp only [Tryz.ntmps128, List.size_toArray, List.length_cons, List.length_nil, Nat.reduceAdd, Nat.reduceSub, Array.replicate_succ, Array.replicate_zero, List.push_toArray, List.append_toArray, List.nil_append, List.cons_append]
  gi_wp2_with (first | ((with_reducible refine atI_box 27 ?_); refine wlI_box28 wide_fn rfl ?_; intro g w1 hb B1 hge; replace hb := hide hb))
  go_ret
  exact ⟨g, rfl, hb.out, B1, hge⟩
theorem run_st70 {w : World} {g : Nat} {u : Value} {f : Fn} {xs ys : Array Value} (h : w.heap[g]? = some (.cells #[u] 238 (0, 0))) : (storeVar 238 ⟨g, 0, none⟩ (.func f xs ys)).run Tryz.prog w = .ok () (w.setCell ⟨g, 0, none⟩ (.func f xs ys)) := by
  have hc := cell_row h 0 (v := u) rfl
  have hf := frozen_of_row w g 0 _ 238 h
  have e : (storeCells ⟨g, 0, none⟩ [.func f xs ys]).run Tryz.prog w = .ok () (w.setCell ⟨g, 0, none⟩ (.func f xs ys)) := by simp [storeCells, go_sem, run_store Tryz.prog w _ (.func f xs ys) _ rfl, stored, hc, hf]
  have o70 : ∀ w, (sizeOf 238).run Tryz.prog w = .ok 1 w := fun w => by kernel_rfl
  have e4 : (Value.func f xs ys).cells = #[.func f xs ys] := rfl
  unfold storeVar
  simp only [Sem.run_bind, o70, Result.andThen_ok, e4]
  simpa using e
section
variable {F : Fence} {n : Nat} {w w' : World} {ops : Array Oper} {rest : List Oper} {a : Act} {Q : Exit → Act → World → Prop} {dst : Option Nat} {x y : Operand} {ty : TypeId} {pos : String} {after : Array Edge}
theorem wlI_box70 (hF : ∀ f, F.fn f) {f : Fn} {xs ys : Array Value} (hx : a.eval x = .func f xs ys) (h : ∀ g w', w'.heap[g]? = some (.cells #[.func f xs ys] 238 (0, 0)) → Below w.heap.size w w' → w.heap.size ≤ g → wpListIn F n Tryz.prog ops Q rest (a.put dst (.pointer (some ⟨g, 0, none⟩))) w') : wpListIn F n Tryz.prog ops Q (⟨dst, .box 238 x, ty, pos, after, none⟩ :: rest) a w := by
  have e : (execOp a.eval ⟨dst, .box 238 x, ty, pos, after, none⟩).run Tryz.prog w = .ok (.value (.pointer (some ⟨w.heap.size, 0, none⟩))) (w.alloc (.cells #[.func f xs ys] 238)) := by
    unfold execOp
    simp only [hx]
    kernel_rfl
  exact wlI_val hF (fun c => nofun) e (h _ _ (heap_alloc_new w _) ((Below.refl _ w).alloc (Nat.le_refl _) _) (Nat.le_refl _))
theorem atI_alloc (t : TypeId) (h : wpListIn F n Tryz.prog ops Q (⟨dst, .alloc t, ty, pos, after, none⟩ :: rest) a w) : wpListIn F n Tryz.prog ops Q (⟨dst, .alloc t, ty, pos, after, none⟩ :: rest) a w := h
theorem atI_store (t : TypeId) (h : wpListIn F n Tryz.prog ops Q (⟨none, .store t x y, ty, pos, after, none⟩ :: rest) a w) : wpListIn F n Tryz.prog ops Q (⟨none, .store t x y, ty, pos, after, none⟩ :: rest) a w := h
theorem wlI_alloc70 (hF : ∀ f, F.fn f) (h : ∀ g w', w'.heap[g]? = some (.cells #[.nilFunc] 238 (0, 0)) → Below w.heap.size w w' → w.heap.size ≤ g → wpListIn F n Tryz.prog ops Q rest (a.put dst (.pointer (some ⟨g, 0, none⟩))) w') : wpListIn F n Tryz.prog ops Q (⟨dst, .alloc 238, ty, pos, after, none⟩ :: rest) a w :=
  wlI_val hF (fun c => nofun) (run_alloc70 w) (h _ _ (heap_alloc_new w _) ((Below.refl _ w).alloc (Nat.le_refl _) _) (Nat.le_refl _))
theorem wlI_st70 (hF : ∀ f, F.fn f) {g : Nat} {u : Value} {f : Fn} {xs ys : Array Value} (hg : w.heap[g]? = some (.cells #[u] 238 (0, 0))) (hx : a.eval x = .pointer (some ⟨g, 0, none⟩)) (hy : a.eval y = .func f xs ys) (h : ∀ w', w'.heap[g]? = some (.cells #[.func f xs ys] 238 (0, 0)) → But (fun k => k = g) w w' → wpListIn F n Tryz.prog ops Q rest a w') : wpListIn F n Tryz.prog ops Q (⟨none, .store 238 x y, ty, pos, after, none⟩ :: rest) a w := by
  refine wlI_skip (w' := w.setCell ⟨g, 0, none⟩ (.func f xs ys)) hF (fun c => nofun) ?_ (h _ ?_ ?_)
  · unfold execOp
    simp only [hx, hy, Instr.storeAt, Instr.sureAddr, Sem.run_bind, Sem.run_pure, Result.andThen_ok, run_st70 hg]
  · exact heap_setCell_same w g 0 _ 238 _ hg
  · exact ⟨rfl, rfl, rfl, by simp [World.setCell], fun k hk hn => Below.heap_setCell w ⟨g, 0, none⟩ _ k hn⟩
end
set_option maxHeartbeats 4000000 in
set_option maxRecDepth 100000 in
theorem within_stops {Pr : Nat → Nd → Nat → Prop} (S : Nat → Prop) (n : Nat) (B : Nat) (t : Tr) (v : Value) (zs : List Value) (w : World) (hB : w.heap[B]? = some (.cells (reA t.1.k t.1.s v t.1.mn t.1.mx) 27 (0, 0))) (ho : w.ownsRow 0 27 8 v t.2.len zs) (hp : ∀ b, v.ownBlock = some b → ¬ S b) (hk : Kd w (fun b => ¬ S b) t.2 zs) (hPr : Pr 1 t.1 t.2.len) (hA : AllF Pr 2 t.2) (hsz : szT t ≤ 9000) (hBS : ¬ S B) (hS : ∀ k, w.heap.size ≤ k → ¬ S k) :
    SeqStopsK Fence.wide n Tryz.prog 179 #[.pointer (some ⟨B, 0, none⟩)] (encE (Pr := Pr)) (Kc S) (fun xs => xs.length = szT t) (fun _ => True) (szT t) w := fun l J Jx W hW hAJ hAJx hYY h0 => by
  obtain ⟨nd, kids⟩ := t
  simp only at *
  have hmf : ∀ (fn : Fn) (first cap : Array Value) (w : World), (Instr.makeFunc fn first cap).run Tryz.prog w = .ok (.func fn first cap) w := fun _ _ _ _ => rfl
  have hBl : B < w.heap.size := (Array.getElem?_eq_some_iff.1 hB).1
  have hsw := hW.size
  have kW : Hid (Kc S w W) := Kc.below hW (Nat.le_refl _)
  obtain ⟨va, vc, hv, _, _⟩ := owns8_val ho
  subst hv
  replace hYY : Hid _ := hide hYY
  replace ho := hide ho
  replace hp := hide hp
  replace hk := hide hk
  replace hPr := hide hPr
  replace hA := hide hA
  replace hS := hide hS
  replace hW := hide hW
  replace hAJh := hide hAJ
  replace h0 := hide h0
  show CallsIn Fence.wide n Tryz.prog 179 #[.func (.yield l) #[] #[], .pointer (some ⟨B, 0, none⟩)] W _
  refine callsIn_of_wp Tryz.func179 rfl trivial ?_ rfl
  simp only [Tryz.ntmps179, List.size_toArray, List.length_cons, List.length_nil, Nat.reduceAdd, Nat.reduceSub, Array.replicate_succ, Array.replicate_zero, List.push_toArray, List.append_toArray, List.nil_append, List.cons_append]
  gi_wp2_with (first | ((with_reducible refine atI_box 238 ?_); refine wlI_box70 wide_fn rfl ?_; intro Y w1 hbY B1 hgY; replace hbY := hide hbY; replace B1 := hide B1) | ((with_reducible refine atI_alloc 238 ?_); refine wlI_alloc70 wide_fn ?_; intro G w2 hbG B2 hgG; replace hbG := hide hbG; replace B2 := hide B2) | ((with_reducible refine atI_store 238 ?_); refine wlI_st70 wide_fn hbG.out rfl rfl ?_; intro w3 hbG3 B3; have hs1 := B1.out.size; have hs2 := B2.out.size; have hl1 := (Array.getElem?_eq_some_iff.1 hbY.out).1; have hY2 : Hid (w2.heap[Y]? = some (.cells #[.func (.yield l) #[] #[]] 238 (0, 0))) := (B2.out.block Y hl1).trans hbY.out; have hY3 : Hid (w3.heap[Y]? = some (.cells #[.func (.yield l) #[] #[]] 238 (0, 0))) := (B3.block Y (by omega) (by omega)).trans hY2.out; have BW : Hid (Below W.heap.size W w3) := (B1.out.trans (B2.out.mono hs1)).trans (B3.below (by omega) (fun k e => by omega)); have k3 : Hid (Kc S w w3) := kW.out.trans (Kc.below BW.out (Nat.le_refl _)); have hB3 := k3.out.2 B _ _ _ hBS hB; have cG := cell_row hbG3 0 (v := .func (.func 180) #[] #[.pointer (some ⟨Y, 0, none⟩), .pointer (some ⟨G, 0, none⟩)]) rfl; replace hbG3 := hide hbG3; have hl28 := hide (load28 hB3); replace hB3 := hide hB3; replace B3 := hide B3) | ((with_reducible refine atI_load 238 ?_); refine wlI_load 238 wide_fn rfl (ld70 cG) ?_) | ((with_reducible refine atI_load 27 ?_); refine wlI_load 27 wide_fn rfl (hl28.out) ?_))
  have hs3 := BW.out.size
  refine ⟨trivial, fun h => (by cases h), (give_in S l Y G w.heap.size J Jx W.heap.size hAJ (szT (nd, kids)) (fun m pre x W1 hj hl => yield_wide (hYY.out pre x W1 hj hl)) (hS.out Y (by omega)) (hS.out G (by omega)) hS.out (szT (nd, kids)) nd kids (Nat.le_refl _) _ 1 w3 [] _ zs hPr.out hA.out (owns8_kc ho.out k3.out hp.out) hp.out (Kd.kc k3.out hk.out) hY3.out hbG3.out (abides_below hAJ h0.out BW.out) (by simp) (by omega) (by omega)).mono ?_⟩
  rintro e W9 (⟨rfl, ⟨ys, hys, hJ9⟩, hk9⟩ | ⟨rfl, p, hJx9⟩)
  · replace hJ9 := hide hJ9
    clear hk9
    gi_wp2
    go_end0
    exact ⟨⟨_, rfl⟩, .inl ⟨ys, hys, by simpa using hJ9.out⟩⟩
  · replace hJx9 := hide hJx9
    gi_wp2
    go_end0
    exact ⟨⟨_, rfl⟩, .inr ⟨p, trivial, hJx9.out⟩⟩
end Go.Proofs.YtnffbmipllhjdaaGreatDoor

namespace Go.Proofs.YtnffbmipllhjdaaGreatDoor
open Go.RowKit Go.Shelf Go.Lib
set_option linter.unusedVariables false
set_option linter.unusedSimpArgs false

shelf_lay Lays.n169 Nm 169 at Tryz as Tryz.laysST
theorem extraST : Builder.Extra Tryz.prog Tryz.laysST_ren where
  sizeBuilder := by kernel_rfl
  liesBuilder := by kernel_rfl
  t5 := Tryz.underlying5
  a5 := Tryz.isAgg5
  z5 := Tryz.sizeOf5
  v5 := Tryz.zeroValue5
  infoByte := by kernel_rfl
  cellsByte := by kernel_rfl
  sizeByte := by kernel_rfl
  neB5 := by decide
theorem size41 : (Tryz.prog.info? 133).map (·.size) = some 2 := by kernel_rfl
theorem st_any (B b : Nat) (l : List UInt8) (w : World) (h : IsBuilder 133 5 B b (byteCells l) w) (hBw : B ≤ w.heap.size) :
    Calls Tryz.prog 75 #[.pointer (some ⟨b, 0, none⟩)] w fun e w' => e = .returned (.string ⟨l.toArray⟩) ∧ Below B w w' :=
  Any.Builder_String_any Tryz.laysST extraST B b l w h hBw
set_option maxRecDepth 100000 in
/-- The first call of a method: the builder's own address lies in it behind it; its bytes are as they were. -/
theorem copy_any (B b : Nat) (bs : List Value) (w : World) (h : IsBuilder 133 5 B b bs w) :
    Calls Tryz.prog 127 #[.pointer (some ⟨b, 0, none⟩)] w fun e w' => e = .returned (.tuple #[]) ∧ BuilderAt 133 5 B b (.pointer (some ⟨b, 0, none⟩)) bs w' ∧ Below B w w' ∧ But (fun k => k = b) w w' := by
  obtain ⟨j, hj, hjs⟩ := Option.map_eq_some_iff.1 size41
  rcases h with h | h
  · have fin := hide (And.intro (h.used (.pointer (some ⟨b, 0, none⟩))) (And.intro ((Below.refl B w).setCell (p := ⟨b, 0, none⟩) h.1 (.pointer (some ⟨b, 0, none⟩))) (⟨rfl, rfl, rfl, by simp [World.setCell], fun k hk hn => Below.heap_setCell w ⟨b, 0, none⟩ _ k hn⟩ : But (fun k => k = b) w (w.setCell ⟨b, 0, none⟩ (.pointer (some ⟨b, 0, none⟩))))))
    have c0 := h.cell0
    have f0 := h.frozen0
    have hsh := hide h.shape
    clear h
    go_enter Tryz.func127, Tryz.ntmps127
    go_wp2
    rw [run_to_unsafe w ⟨b, 0, none⟩ Tryz.underlying130 Tryz.underlying236 hj (by omega) hsh.out (show 0 < 2 by omega), Result.andThen_ok, Oper.upon_value]
    go_wp2
    rw [run_callFunc_extern Tryz.func178 (by kernel_rfl) (by kernel_rfl) (by kernel_rfl) (e := Extern.AbiNoEscape.same) (by kernel_rfl), run_noEscape, Result.andThen_ok, Oper.upon_value]
    go_wp2
    rw [run_from_unsafe w ⟨b, 0, none⟩ Tryz.underlying236 Tryz.underlying130 hj hsh.out extraST.liesBuilder, Result.andThen_ok, Oper.upon_value]
    go_wp2
    go_end0
    exact ⟨rfl, fin.out⟩
  · have c0 := h.cell0
    replace h := hide h
    go_enter Tryz.func127, Tryz.ntmps127
    go_wp2
    rw [run_neq_ptr_same w _ Tryz.underlying130 hj]
    go_wp2
    go_end0
    exact ⟨rfl, h.out, Below.refl B _, But.refl _ _⟩
theorem new_byte (w : World) (x : Value) (j : Nat) (u : Value) (h : [x][j]? = some u) : (w.alloc (.cells #[x] 5)).cell? ((⟨w.heap.size, 0, none⟩ : Addr).add j) = some u := by
  cases j with
  | zero =>
    rw [show (⟨w.heap.size, 0, none⟩ : Addr).add 0 = ⟨w.heap.size, 0, none⟩ from rfl, cell_of_heap (heap_alloc_new w _)]
    simpa using h
  | succ j => simp at h
/-- A used builder's buffer, in whatever world comes behind; and what is so when another one is laid into it. -/
theorem buffer {B b : Nat} {p : Value} {bs : List Value} {w : World} (h : BuilderAt 133 5 B b p bs w) (hBw : B ≤ w.heap.size) :
    ∃ v, w.cell? ⟨b, 1, none⟩ = some v ∧ ∀ W, Below w.heap.size w W → W.ownsRow B 5 1 v bs.length bs ∧
      ∀ w2 v' xs, W.grownBy w2 v.ownBlock → w2.ownsRow B 5 1 v' xs.length xs →
        w2.cell? ⟨b, 1, none⟩ = some v ∧ w2.frozen? ⟨b, 1, none⟩ = false ∧ BuilderAt 133 5 B b p xs (w2.setCell ⟨b, 1, none⟩ v') ∧ Below B w (w2.setCell ⟨b, 1, none⟩ v') ∧ But (fun k => k = b ∨ v.ownBlock = some k) w (w2.setCell ⟨b, 1, none⟩ v') ∧ (∀ k, v.ownBlock = some k → k ≠ b ∧ ∃ xs, w.heap[k]? = some (.cells xs 5 (0, 0))) := by
  have hlt := h.lt
  obtain ⟨hB, v, hk, ho, hn⟩ := h
  refine ⟨v, by rw [cell_of_heap hk]; rfl, fun W hW => ⟨ho.kept (row := none) ⟨hW.os, hW.tape, hW.output, hW.size, fun k hk _ => hW.block k hk⟩ (Classical.em _), fun w2 v' xs hg ho2 => ?_⟩⟩
  have hs := hW.size
  have h2 := (hg.block b (by omega) (fun e => hn e.symm)).trans ((hW.block b hlt).trans hk)
  exact ⟨by rw [cell_of_heap h2]; rfl, frozen_of_heap h2 1, BuilderAt.put hB h2 ho2 (by decide), ((hW.mono hBw).grown hg (by omega) (fun k hk => (ho.lt k hk).1)).setCell (p := ⟨b, 1, none⟩) hB _, ((but_of_below hW _ (fun k h1 h2 => by omega)).grown hg (fun k e _ => .inr e)).trans (T := fun k => k = b) ⟨rfl, rfl, rfl, by simp [World.setCell], fun k hk hn => Below.heap_setCell w2 ⟨b, 1, none⟩ _ k hn⟩ (fun i _ h => .inl h), fun k hk => ⟨fun e => hn (e ▸ hk), (by rcases ho.2 with ⟨e, _⟩ | ⟨g, cp, cur, e, _, hg', _⟩; rw [e] at hk; cases hk; rw [e] at hk; cases hk; exact ⟨cur, hg'⟩)⟩⟩
/-- Nothing has turned but the builder's box and rows of bytes. -/
def Bz (b : Nat) (w w' : World) : Prop := But (fun k => k = b ∨ ∃ xs fr, w.heap[k]? = some (.cells xs 5 fr)) w w'
theorem bz_of {b : Nat} {w w1 w2 : World} {v : Value} (h1 : But (fun k => k = b) w w1) (h2 : But (fun k => k = b ∨ v.ownBlock = some k) w1 w2) (hv : ∀ k, v.ownBlock = some k → k ≠ b ∧ ∃ xs, w1.heap[k]? = some (.cells xs 5 (0, 0))) : Bz b w w2 :=
  (h1.mono (T := fun k => k = b ∨ ∃ xs fr, w.heap[k]? = some (.cells xs 5 fr)) (fun k h => .inl h)).trans h2 (fun i hi h => by
    rcases h with h | h
    · exact .inl h
    · obtain ⟨hne, xs, hx⟩ := hv i h
      exact .inr ⟨xs, (0, 0), (h1.block i hi hne).symm.trans hx⟩)
set_option maxHeartbeats 2000000 in
set_option maxRecDepth 100000 in
theorem wb_any (B b : Nat) (l : List UInt8) (c : UInt8) (w : World) (h : IsBuilder 133 5 B b (byteCells l) w) (hlen : l.length + 1 ≤ 140737488355328) (hBw : B ≤ w.heap.size) :
    Calls Tryz.prog 73 #[.pointer (some ⟨b, 0, none⟩), .int .u8 (c.toNat : Int)] w fun e w' => e = .returned .nilIface ∧ IsBuilder 133 5 B b (byteCells (l ++ [c])) w' ∧ Below B w w' ∧ Bz b w w' := by
  obtain ⟨i0, hi, hz0, hz1, hz2⟩ := info_parts extraST.infoByte
  rw [← byteCells_length l] at hlen
  rw [show byteCells (l ++ [c]) = byteCells l ++ [.int .u8 (c.toNat : Int)] by simp [byteCells]]
  generalize byteCells l = bs at *
  go_enter Tryz.func73, Tryz.ntmps73
  go_wp2_with (go_at_call 127; refine (copy_any B b bs _ h).mono ?_)
  rintro e w1 ⟨rfl, h1, B1, Bu1⟩
  have hB1 : B ≤ w1.heap.size := by have := B1.size; omega
  obtain ⟨v, c1, hv⟩ := buffer h1 hB1
  obtain ⟨o1, o2⟩ := hv _ ((Below.refl _ w1).alloc (Nat.le_refl _) (.cells #[.int .u8 (c.toNat : Int)] 5))
  replace o1 := hide o1
  replace o2 := hide o2
  replace B1 := hide B1
  replace Bu1 := hide Bu1
  clear h1 hv
  go_wp2_with (at_builtin; refine wpList_append_own _ rfl _ _ 131 rfl B 5 i0 (.int .u8 0) 1 1 Tryz.underlying131 hi hz0 hz1 hz2 rfl (by decide) _ _ _ rfl o1.out ⟨w1.heap.size, 0, none⟩ 1 1 [.int .u8 (c.toNat : Int)] rfl rfl (new_byte w1 _) ?c2 ?c3 ?c4 ?c5 ?_)
  case c2 => intro u hu; rw [List.mem_singleton.1 hu]; rfl
  case c3 => unfold maxLen; omega
  case c4 => omega
  case c5 => simp; omega
  intro v' w2 hv' hg _
  obtain ⟨a, k, rfl⟩ : ∃ a k, v' = .slice a (bs.length + 1) k := by
    rcases hv'.2 with ⟨_, h0⟩ | ⟨g, k, _, e, _⟩
    · omega
    · exact ⟨_, k, e⟩
  obtain ⟨d1, f1, r⟩ := o2.out w2 _ (bs ++ [.int .u8 (c.toNat : Int)]) hg (by simpa using hv')
  replace r := hide r
  clear hv' hg
  go_wp2
  go_ret
  exact ⟨rfl, .inr r.out.1, B1.out.trans r.out.2.1, bz_of Bu1.out r.out.2.2.1 r.out.2.2.2⟩
set_option maxHeartbeats 2000000 in
set_option maxRecDepth 100000 in
theorem ws_any (B b : Nat) (l : List UInt8) (s : ByteArray) (w : World) (h : IsBuilder 133 5 B b (byteCells l) w) (hlen : l.length + s.size ≤ 140737488355328) (hBw : B ≤ w.heap.size) :
    Calls Tryz.prog 74 #[.pointer (some ⟨b, 0, none⟩), .string s] w fun e w' => e = .returned (.tuple #[.int .i64 s.size, .nilIface]) ∧ IsBuilder 133 5 B b (byteCells (l ++ s.data.toList)) w' ∧ Below B w w' ∧ Bz b w w' := by
  obtain ⟨i0, hi, hz0, hz1, hz2⟩ := info_parts extraST.infoByte
  rw [← byteCells_length l] at hlen
  rw [show byteCells (l ++ s.data.toList) = byteCells l ++ strCells s by simp [byteCells, strCells]]
  generalize byteCells l = bs at *
  go_enter Tryz.func74, Tryz.ntmps74
  go_wp2_with (go_at_call 127; refine (copy_any B b bs _ h).mono ?_)
  rintro e w1 ⟨rfl, h1, B1, Bu1⟩
  have hB1 : B ≤ w1.heap.size := by have := B1.size; omega
  obtain ⟨v, c1, hv⟩ := buffer h1 hB1
  obtain ⟨o1, o2⟩ := hv _ (Below.refl _ w1)
  replace o1 := hide o1
  replace o2 := hide o2
  replace B1 := hide B1
  replace Bu1 := hide Bu1
  clear h1 hv
  go_wp2_with (at_builtin; refine wpList_append_own_string _ rfl _ _ 131 9 rfl B 5 i0 Tryz.underlying131 Tryz.underlying9 hi hz0 hz1 hz2 _ _ _ rfl o1.out s rfl ?c3 ?c4 ?c5 ?_)
  case c3 => unfold maxLen; omega
  case c4 => omega
  case c5 => exact hB1
  intro v' w2 hv' hg _
  obtain ⟨a, n, k, rfl⟩ : ∃ a n k, v' = .slice a n k := by
    rcases hv'.2 with ⟨e, _⟩ | ⟨g, k, _, e, _⟩
    · exact ⟨_, _, _, e⟩
    · exact ⟨_, _, _, e⟩
  obtain ⟨d1, f1, r⟩ := o2.out w2 _ (bs ++ strCells s) hg (by simpa [strCells_length] using hv')
  replace r := hide r
  clear hv' hg
  go_wp2
  go_ret2
  exact ⟨rfl, .inr r.out.1, B1.out.trans r.out.2.1, bz_of Bu1.out r.out.2.2.1 r.out.2.2.2⟩
/-- A letter. -/
def isLet (c : Int) : Bool := decide (97 ≤ c) && decide (c ≤ 122) || decide (65 ≤ c) && decide (c ≤ 90)
end Go.Proofs.YtnffbmipllhjdaaGreatDoor

namespace Go.Proofs.YtnffbmipllhjdaaGreatDoor.G
open Go.RowKit
set_option linter.unusedVariables false
set_option linter.unusedSimpArgs false

/-- A text, as the list of its bytes. -/
abbrev Tx := List UInt8
/-- Queries, as a forest: Op, Text, members; the next one. -/
inductive Qf where
  | nil : Qf
  | cons : Int → Tx → Qf → Qf → Qf
deriving DecidableEq
/-- A query. -/
structure Qy where
  op : Int
  tx : Tx
  l : Qf
deriving DecidableEq
def Qf.ls : Qf → List Qy
  | .nil => []
  | .cons o t k r => ⟨o, t, k⟩ :: r.ls
def fq : List Qy → Qf
  | [] => .nil
  | q :: r => .cons q.op q.tx q.l (fq r)
theorem fq_ls : ∀ f : Qf, fq f.ls = f
  | .nil => rfl
  | .cons o t k r => by simp [Qf.ls, fq, fq_ls r]
theorem ls_fq : ∀ l : List Qy, (fq l).ls = l
  | [] => rfl
  | q :: r => by simp [Qf.ls, fq, ls_fq r]
def Qf.len : Qf → Nat
  | .nil => 0
  | .cons _ _ _ r => r.len + 1
theorem len_ls : ∀ f : Qf, f.ls.length = f.len
  | .nil => rfl
  | .cons o t k r => by simp [Qf.ls, Qf.len, len_ls r]
/-- How many queries there are in it. -/
def Qf.sz : Qf → Nat
  | .nil => 0
  | .cons _ _ k r => 1 + k.sz + r.sz
def Qy.sz (q : Qy) : Nat := 1 + q.l.sz
theorem sz_ls : ∀ f : Qf, (f.ls.map Qy.sz).sum = f.sz
  | .nil => rfl
  | .cons o t k r => by simp only [Qf.ls, List.map_cons, List.sum_cons, Qf.sz, sz_ls r, Qy.sz]
/-- How deep it is. -/
def Qf.dp : Qf → Nat
  | .nil => 0
  | .cons _ _ k r => max (1 + k.dp) r.dp
def Qy.dp (q : Qy) : Nat := 1 + q.l.dp
/-- The first one of each. -/
def dis {α : Type} [DecidableEq α] : List α → List α → List α
  | _, [] => []
  | had, x :: r => if x ∈ had then dis had r else x :: dis (x :: had) r
theorem mem_dis {α : Type} [DecidableEq α] (l : List α) : ∀ (had : List α) (y : α), y ∈ dis had l ↔ y ∈ l ∧ y ∉ had := by
  induction l with
  | nil => intro had y; simp [dis]
  | cons x r ih =>
    intro had y
    by_cases hx : x ∈ had
    · simp only [dis, if_pos hx, ih, List.mem_cons]
      constructor
      · exact fun h => ⟨.inr h.1, h.2⟩
      · rintro ⟨rfl | h1, h2⟩
        · exact (h2 hx).elim
        · exact ⟨h1, h2⟩
    · simp only [dis, if_neg hx, List.mem_cons, ih, not_or]
      constructor
      · rintro (rfl | ⟨h1, h2, h3⟩)
        · exact ⟨.inl rfl, hx⟩
        · exact ⟨.inr h1, h3⟩
      · rintro ⟨rfl | h1, h2⟩
        · exact .inl rfl
        · by_cases e : y = x
          · exact .inl e
          · exact .inr ⟨h1, e, h2⟩
theorem dis_nodup {α : Type} [DecidableEq α] (l : List α) : ∀ had : List α, (dis had l).Nodup := by
  induction l with
  | nil => intro had; simp [dis]
  | cons x r ih =>
    intro had
    by_cases hx : x ∈ had
    · simp only [dis, if_pos hx]; exact ih had
    · simp only [dis, if_neg hx, List.nodup_cons]
      exact ⟨fun h => ((mem_dis r _ x).1 h).2 (by simp), ih _⟩
theorem dis_snoc {α : Type} [DecidableEq α] (l : List α) : ∀ (had : List α) (x : α), dis had (l ++ [x]) = if x ∈ had ∨ x ∈ l then dis had l else dis had l ++ [x] := by
  induction l with
  | nil => intro had x; by_cases h : x ∈ had <;> simp [dis, h]
  | cons y r ih =>
    intro had x
    by_cases hy : y ∈ had
    · simp only [List.cons_append, dis, if_pos hy, ih]
      by_cases h : x ∈ had ∨ x ∈ r
      · rw [if_pos h, if_pos (by rcases h with h | h; exact .inl h; exact .inr (by simp [h]))]
      · rw [if_neg h, if_neg (fun h2 => h (by
          rcases h2 with h2 | h2
          · exact .inl h2
          · rcases List.mem_cons.1 h2 with rfl | h2
            · exact .inl hy
            · exact .inr h2))]
    · simp only [List.cons_append, dis, if_neg hy, ih]
      by_cases h : x ∈ y :: had ∨ x ∈ r
      · rw [if_pos h, if_pos (by
          rcases h with h | h
          · rcases List.mem_cons.1 h with rfl | h
            · exact .inr (by simp)
            · exact .inl h
          · exact .inr (by simp [h]))]
      · rw [if_neg h, if_neg (fun h2 => h (by
          rcases h2 with h2 | h2
          · exact .inl (by simp [h2])
          · rcases List.mem_cons.1 h2 with rfl | h2
            · exact .inl (by simp)
            · exact .inr h2))]
        try rfl
theorem dis_le {α : Type} [DecidableEq α] (l : List α) : ∀ had : List α, (dis had l).length ≤ l.length := by
  induction l with
  | nil => intro had; simp [dis]
  | cons x r ih =>
    intro had
    by_cases hx : x ∈ had
    · simp only [dis, if_pos hx, List.length_cons]; have := ih had; omega
    · simp only [dis, if_neg hx, List.length_cons]; have := ih (x :: had); omega
theorem dis_of_nodup {α : Type} [DecidableEq α] {l : List α} (h : l.Nodup) : ∀ had : List α, (∀ x ∈ l, x ∉ had) → dis had l = l := by
  induction l with
  | nil => intro _ _; rfl
  | cons x r ih =>
    intro had hh
    rw [List.nodup_cons] at h
    simp only [dis, if_neg (hh x (by simp))]
    rw [ih h.2 (x :: had) (fun y hy hy2 => by
      rcases List.mem_cons.1 hy2 with rfl | hy2
      · exact h.1 hy
      · exact hh y (by simp [hy]) hy2)]
def Asc (l : List Tx) : Prop := l.Pairwise (fun a b => a < b)
theorem asc_nodup {l : List Tx} (h : Asc l) : l.Nodup := h.imp (fun hab e => by subst e; exact List.lt_irrefl _ hab)
theorem asc_ext : ∀ {l m : List Tx}, Asc l → Asc m → (∀ x, x ∈ l ↔ x ∈ m) → l = m
  | [], [], _, _, _ => rfl
  | [], b :: m, _, _, h => by have := (h b).2 (by simp); simp at this
  | a :: l, [], _, _, h => by have := (h a).1 (by simp); simp at this
  | a :: l, b :: m, h1, h2, h => by
    rw [Asc, List.pairwise_cons] at h1 h2
    have hab : a = b := by
      rcases List.mem_cons.1 ((h a).1 (by simp)) with e | e
      · exact e
      · rcases List.mem_cons.1 ((h b).2 (by simp)) with e2 | e2
        · exact e2.symm
        · exact absurd (h1.1 b e2) (fun hlt => List.lt_irrefl _ (List.lt_trans hlt (h2.1 a e)))
    subst hab
    congr 1
    refine asc_ext h1.2 h2.2 (fun x => ?_)
    constructor
    · intro hx
      rcases List.mem_cons.1 ((h x).1 (by simp [hx])) with e | e
      · subst e; exact absurd (h1.1 x hx) (List.lt_irrefl _)
      · exact e
    · intro hx
      rcases List.mem_cons.1 ((h x).2 (by simp [hx])) with e | e
      · subst e; exact absurd (h2.1 x hx) (List.lt_irrefl _)
      · exact e
abbrev le8 : Tx → Tx → Bool := fun x y => decide (x ≤ y)
theorem le8_tr (a b c : Tx) (h1 : le8 a b = true) (h2 : le8 b c = true) : le8 a c = true := by simp only [le8, decide_eq_true_eq] at *; exact List.le_trans h1 h2
theorem le8_to (a b : Tx) : (le8 a b || le8 b a) = true := by simp only [le8, Bool.or_eq_true, decide_eq_true_eq]; exact List.le_total a b
/-- Sorted. -/
def srt (l : List Tx) : List Tx := l.mergeSort le8
theorem mem_srt {l : List Tx} {x : Tx} : x ∈ srt l ↔ x ∈ l := (List.mergeSort_perm l le8).mem_iff
theorem srt_len (l : List Tx) : (srt l).length = l.length := (List.mergeSort_perm l le8).length_eq
theorem srt_asc {l : List Tx} (h : l.Nodup) : Asc (srt l) := by
  have h1 := List.pairwise_mergeSort (le := le8) le8_tr le8_to l
  have h2 : (srt l).Nodup := (List.mergeSort_perm l le8).nodup_iff.2 h
  have h3 : (srt l).Pairwise (fun a b => le8 a b = true ∧ a ≠ b) := List.pairwise_and_iff.2 ⟨h1, h2⟩
  refine h3.imp (fun {a b} hab => ?_)
  have hle : a ≤ b := by simpa [le8] using hab.1
  exact Classical.byContradiction (fun h => hab.2 (List.le_antisymm hle (List.not_lt.1 h)))
/-- Sorted, each once. -/
def ups (l : List Tx) : List Tx := srt (dis [] l)
theorem mem_ups {l : List Tx} {x : Tx} : x ∈ ups l ↔ x ∈ l := by unfold ups; rw [mem_srt, mem_dis]; simp
theorem ups_asc (l : List Tx) : Asc (ups l) := srt_asc (dis_nodup l [])
theorem ups_len (l : List Tx) : (ups l).length ≤ l.length := by unfold ups; rw [srt_len]; exact dis_le l []
/-- The grams of s as they stand there. -/
def winds (s : Tx) : List Tx := (List.range (s.length - 2)).map (fun i => (s.drop i).take 3)
def gramsOf (s : Tx) : List Tx := ups (winds s)
theorem winds_three {s g : Tx} (h : g ∈ winds s) : g.length = 3 := by
  unfold winds at h
  obtain ⟨i, hi, rfl⟩ := List.mem_map.1 h
  have := List.mem_range.1 hi
  rw [List.length_take, List.length_drop]
  omega
theorem winds_len (s : Tx) : (winds s).length = s.length - 2 := by simp [winds]
theorem grams_three {s g : Tx} (h : g ∈ gramsOf s) : g.length = 3 := winds_three (mem_ups.1 h)
theorem mem_winds {s g : Tx} : g ∈ winds s ↔ g.length = 3 ∧ ∃ u v, s = u ++ g ++ v := by
  constructor
  · intro h
    refine ⟨winds_three h, ?_⟩
    unfold winds at h
    obtain ⟨i, hi, rfl⟩ := List.mem_map.1 h
    exact ⟨s.take i, (s.drop i).drop 3, by rw [List.append_assoc, List.take_append_drop, List.take_append_drop]⟩
  · rintro ⟨h3, u, v, rfl⟩
    unfold winds
    refine List.mem_map.2 ⟨u.length, List.mem_range.2 (by simp; omega), ?_⟩
    rw [List.append_assoc, List.drop_left, List.take_left' h3]
def joinL (a b : List Tx) : List Tx := a.flatMap (fun x => b.map (fun y => x ++ y))
/-- Bounded: at most 32, none longer than 32 bytes. -/
def bnd (l : List Tx) : Option (List Tx) := if (dis [] l).length ≤ 32 ∧ (∀ t ∈ l, t.length ≤ 32) then some (ups l) else none
def joinB : List Tx → Tx
  | [] => []
  | [t] => t
  | t :: r => t ++ 32 :: joinB r
def tellN (o : Int) (t : Tx) (ks : List Tx) : Tx :=
  if o = 0 then [42] else if o = 1 then [45] else if o = 2 then 124 :: t ++ [124] else if o = 3 then 40 :: joinB ks ++ [41] else if o = 4 then 91 :: joinB ks ++ [93] else []
def Qf.tells : Qf → List Tx
  | .nil => []
  | .cons o t k r => tellN o t k.tells :: r.tells
def Qy.tell (q : Qy) : Tx := tellN q.op q.tx q.l.tells
theorem tells_ls : ∀ f : Qf, f.tells = f.ls.map Qy.tell
  | .nil => rfl
  | .cons o t k r => by simp [Qf.tells, Qf.ls, Qy.tell, tells_ls r]
def allQ : Qy := ⟨0, [], .nil⟩
def gramQ (g : Tx) : Qy := ⟨2, g, .nil⟩
def goesO (op : Int) : Int := if op = 4 then 1 else 0
def rulesO (op : Int) : Int := if op = 4 then 0 else 1
def openQ (op : Int) (l : List Qy) : List Qy := l.flatMap (fun q => if q.op = op then q.l.ls else [q])
/-- The first one of each key. -/
def disBy {α β : Type} [DecidableEq β] (f : α → β) : List β → List α → List α
  | _, [] => []
  | had, x :: r => if f x ∈ had then disBy f had r else x :: disBy f (f x :: had) r
theorem disBy_snoc {α β : Type} [DecidableEq β] (f : α → β) (l : List α) : ∀ (had : List β) (x : α), disBy f had (l ++ [x]) = if f x ∈ had ∨ f x ∈ l.map f then disBy f had l else disBy f had l ++ [x] := by
  induction l with
  | nil => intro had x; by_cases h : f x ∈ had <;> simp [disBy, h]
  | cons y r ih =>
    intro had x
    by_cases hy : f y ∈ had
    · simp only [List.cons_append, disBy, if_pos hy, ih]
      by_cases h : f x ∈ had ∨ f x ∈ r.map f
      · rw [if_pos h, if_pos (by rcases h with h | h; exact .inl h; exact .inr (by simp [h]))]
      · rw [if_neg h, if_neg (fun h2 => h (by
          rcases h2 with h2 | h2
          · exact .inl h2
          · rw [List.map_cons] at h2
            rcases List.mem_cons.1 h2 with e | h2
            · exact .inl (e ▸ hy)
            · exact .inr h2))]
    · simp only [List.cons_append, disBy, if_neg hy, ih]
      by_cases h : f x ∈ f y :: had ∨ f x ∈ r.map f
      · rw [if_pos h, if_pos (by
          rcases h with h | h
          · rcases List.mem_cons.1 h with e | h
            · exact .inr (by simp [e])
            · exact .inl h
          · exact .inr (by rw [List.map_cons]; exact List.mem_cons_of_mem _ h))]
      · rw [if_neg h, if_neg (fun h2 => h (by
          rcases h2 with h2 | h2
          · exact .inl (by simp [h2])
          · rw [List.map_cons] at h2
            rcases List.mem_cons.1 h2 with e | h2
            · exact .inl (by simp [e])
            · exact .inr h2))]
        try rfl
theorem mem_disBy {α β : Type} [DecidableEq β] (f : α → β) (l : List α) : ∀ (had : List β) {x : α}, x ∈ disBy f had l → x ∈ l := by
  induction l with
  | nil => intro had x h; exact h
  | cons y r ih =>
    intro had x h
    by_cases hy : f y ∈ had
    · simp only [disBy, if_pos hy] at h; exact List.mem_cons_of_mem _ (ih _ h)
    · simp only [disBy, if_neg hy] at h
      rcases List.mem_cons.1 h with rfl | h
      · simp
      · exact List.mem_cons_of_mem _ (ih _ h)
theorem disBy_keys {α β : Type} [DecidableEq β] (f : α → β) (l : List α) : ∀ (had : List β) (y : β), y ∈ (disBy f had l).map f ↔ y ∈ l.map f ∧ y ∉ had := by
  induction l with
  | nil => intro had y; simp [disBy]
  | cons x r ih =>
    intro had y
    by_cases hx : f x ∈ had
    · simp only [disBy, if_pos hx, ih, List.map_cons, List.mem_cons]
      constructor
      · exact fun h => ⟨.inr h.1, h.2⟩
      · rintro ⟨rfl | h1, h2⟩
        · exact (h2 hx).elim
        · exact ⟨h1, h2⟩
    · simp only [disBy, if_neg hx, List.map_cons, List.mem_cons, ih, not_or]
      constructor
      · rintro (rfl | ⟨h1, h2, h3⟩)
        · exact ⟨.inl rfl, hx⟩
        · exact ⟨.inr h1, h3⟩
      · rintro ⟨rfl | h1, h2⟩
        · exact .inl rfl
        · by_cases e : y = f x
          · exact .inl e
          · exact .inr ⟨h1, e, h2⟩
theorem disBy_le {α β : Type} [DecidableEq β] (f : α → β) (l : List α) : ∀ had : List β, (disBy f had l).length ≤ l.length := by
  induction l with
  | nil => intro had; simp [disBy]
  | cons x r ih =>
    intro had
    by_cases hx : f x ∈ had
    · simp only [disBy, if_pos hx, List.length_cons]; have := ih had; omega
    · simp only [disBy, if_neg hx, List.length_cons]; have := ih (f x :: had); omega
def leftQ (goes : Int) (op : Int) : List Qy → Qy
  | [] => ⟨goes, [], .nil⟩
  | [q] => q
  | l => ⟨op, [], fq l⟩
def tg (op : Int) (l : List Qy) : Qy :=
  match (disBy Qy.tell [] (openQ op l)).find? (fun q => q.op = rulesO op) with
  | some q => q
  | none => leftQ (goesO op) op ((disBy Qy.tell [] (openQ op l)).filter (fun q => q.op ≠ goesO op))
/-- The query of texts. -/
def queryOf (ts : List Tx) : Qy := tg 4 (ts.map (fun s => tg 3 ((gramsOf s).map gramQ)))
inductive Pt where
  | told : List Tx → Pt
  | ask : Qy → Pt
def Pt.q : Pt → Qy
  | .told _ => allQ
  | .ask q => q
def Pt.asked : Pt → Qy
  | .told ts => queryOf ts
  | .ask q => q
def longG : List Tx → List Pt → List Tx × Nat
  | ts, [] => (ts, 0)
  | ts, .ask _ :: _ => (ts, 0)
  | ts, .told p :: r => match bnd (joinL ts p) with
    | none => (ts, 0)
    | some m => ((longG m r).1, (longG m r).2 + 1)
def longest (l : List Pt) : List Tx × Nat := longG [[]] l
def pieces : Nat → List Pt → List Qy
  | 0, _ => []
  | _ + 1, [] => []
  | f + 1, p :: r => if (longest (p :: r)).2 = 0 then p.q :: pieces f r else queryOf (longest (p :: r)).1 :: pieces f ((p :: r).drop (longest (p :: r)).2)
def allOf (l : List Pt) : Pt := if (longest l).2 = l.length then .told (longest l).1 else .ask (tg 3 (pieces l.length l))
def unitedT : List Pt → Option (List Tx)
  | [] => some []
  | .ask _ :: _ => none
  | .told p :: r => (unitedT r).map (fun ts => p ++ ts)
def oneOf (l : List Pt) : Pt := match (unitedT l).bind bnd with
  | some ts => .told ts
  | none => .ask (tg 4 (l.map Pt.asked))
def repeated (p : Pt) (mn mx : Int) : Pt :=
  if mn = mx ∧ (longest (List.replicate mn.toNat p)).2 = mn.toNat then .told (longest (List.replicate mn.toNat p)).1
  else if mn = 0 then .ask allQ else .ask p.asked
end Go.Proofs.YtnffbmipllhjdaaGreatDoor.G

namespace Go.Proofs.YtnffbmipllhjdaaGreatDoor.G
open Go.RowKit
set_option linter.unusedVariables false
set_option linter.unusedSimpArgs false

def okN (o : Int) (t : Tx) (k : Qf) : Prop := ((o = 0 ∨ o = 1) ∧ t = [] ∧ k = .nil) ∨ (o = 2 ∧ t.length = 3 ∧ k = .nil) ∨ ((o = 3 ∨ o = 4) ∧ t = [])
def Qf.ok : Qf → Prop
  | .nil => True
  | .cons o t k r => okN o t k ∧ k.ok ∧ r.ok
def Qy.ok (q : Qy) : Prop := okN q.op q.tx q.l ∧ q.l.ok
theorem ok_ls : ∀ {f : Qf}, f.ok → ∀ q ∈ f.ls, q.ok
  | .nil, _, q, h => by simp [Qf.ls] at h
  | .cons o t k r, h, q, hq => by
    rcases List.mem_cons.1 hq with rfl | hq
    · exact ⟨h.1, h.2.1⟩
    · exact ok_ls h.2.2 q hq
theorem ok_fq : ∀ {l : List Qy}, (∀ q ∈ l, q.ok) → (fq l).ok
  | [], _ => trivial
  | q :: r, h => ⟨(h q (by simp)).1, (h q (by simp)).2, ok_fq (fun x hx => h x (by simp [hx]))⟩
def restB : List Tx → Tx
  | [] => []
  | l => 32 :: joinB l
theorem joinB_cons (t : Tx) (r : List Tx) : joinB (t :: r) = t ++ restB r := by
  cases r with
  | nil => simp [joinB, restB]
  | cons a b => rfl
theorem tells_cons (o : Int) (t : Tx) (k r : Qf) : (Qf.cons o t k r).tells = tellN o t k.tells :: r.tells := rfl
def hd5 (c : UInt8) : Prop := c = 42 ∨ c = 45 ∨ c = 124 ∨ c = 40 ∨ c = 91
theorem tell_hd {o : Int} {t : Tx} {k : Qf} (h : okN o t k) (ks : List Tx) : ∃ c r, tellN o t ks = c :: r ∧ hd5 c := by
  unfold tellN
  rcases h with ⟨rfl | rfl, _⟩ | ⟨rfl, _⟩ | ⟨rfl | rfl, _⟩ <;> simp [hd5]
theorem hd5_no {c : UInt8} (h : hd5 c) : c ≠ 41 ∧ c ≠ 93 ∧ c ≠ 32 := by
  rcases h with rfl | rfl | rfl | rfl | rfl <;> decide
theorem tells_inj : ∀ (f g : Qf), f.ok → g.ok → ∀ (c c' : UInt8) (u v : Tx), (c = 41 ∨ c = 93) → (c' = 41 ∨ c' = 93) → joinB f.tells ++ c :: u = joinB g.tells ++ c' :: v → f = g ∧ c = c' ∧ u = v := by
  intro f
  induction f with
  | nil =>
    intro g _ hg c c' u v hc hc' e
    cases g with
    | nil => simp [Qf.tells, joinB] at e; exact ⟨rfl, e.1, e.2⟩
    | cons o t k r =>
      exfalso
      rw [tells_cons, joinB_cons] at e
      obtain ⟨d, w, hd, h5⟩ := tell_hd hg.1 k.tells
      rw [hd] at e
      simp [Qf.tells, joinB] at e
      have := hd5_no h5
      rcases hc with rfl | rfl
      · exact this.1 e.1.symm
      · exact this.2.1 e.1.symm
  | cons o t k r ihk ihr =>
    intro g hf hg c c' u v hc hc' e
    cases g with
    | nil =>
      exfalso
      rw [tells_cons, joinB_cons] at e
      obtain ⟨d, w, hd, h5⟩ := tell_hd hf.1 k.tells
      rw [hd] at e
      simp [Qf.tells, joinB] at e
      have := hd5_no h5
      rcases hc' with rfl | rfl
      · exact this.1 e.1
      · exact this.2.1 e.1
    | cons o' t' k' r' =>
      rw [tells_cons, tells_cons, joinB_cons, joinB_cons, List.append_assoc, List.append_assoc] at e
      obtain ⟨h1, h2, h3⟩ := hf
      obtain ⟨g1, g2, g3⟩ := hg
      -- what follows
      have rest : ∀ {X : Tx} {Y : Tx}, X = restB r.tells ++ c :: u → Y = restB r'.tells ++ c' :: v → X = Y → r = r' ∧ c = c' ∧ u = v := by
        intro X Y hX hY hXY
        rw [hX, hY] at hXY
        cases r with
        | nil =>
          cases r' with
          | nil => simp [Qf.tells, restB] at hXY; exact ⟨rfl, hXY.1, hXY.2⟩
          | cons _ _ _ _ =>
            exfalso
            simp [Qf.tells, restB] at hXY
            rcases hc with rfl | rfl
            · exact absurd hXY.1 (by decide)
            · exact absurd hXY.1 (by decide)
        | cons a1 a2 a3 a4 =>
          cases r' with
          | nil =>
            exfalso
            simp [Qf.tells, restB] at hXY
            rcases hc' with rfl | rfl
            · exact absurd hXY.1 (by decide)
            · exact absurd hXY.1 (by decide)
          | cons b1 b2 b3 b4 =>
            have e1 : ∀ (x y z w : _), restB (Qf.cons x y z w).tells = 32 :: joinB (Qf.cons x y z w).tells := fun _ _ _ _ => rfl
            rw [e1, e1] at hXY
            simp only [List.cons_append, List.cons.injEq, true_and] at hXY
            exact ihr _ h3 g3 c c' u v hc hc' hXY
      have two : ∀ {x y X Y : Tx}, x.length = 3 → y.length = 3 → x ++ 124 :: X = y ++ 124 :: Y → x = y ∧ X = Y := by
        intro x y X Y hx hy hxy
        have := List.append_inj hxy (by omega)
        exact ⟨this.1, by simpa using this.2⟩
      rcases h1 with ⟨rfl | rfl, rfl, rfl⟩ | ⟨rfl, h1, rfl⟩ | ⟨rfl | rfl, rfl⟩ <;> rcases g1 with ⟨rfl | rfl, rfl, rfl⟩ | ⟨rfl, g1, rfl⟩ | ⟨rfl | rfl, rfl⟩ <;> simp [tellN] at e
      · obtain ⟨a, b, d⟩ := rest rfl rfl e; exact ⟨by rw [a], b, d⟩
      · obtain ⟨a, b, d⟩ := rest rfl rfl e; exact ⟨by rw [a], b, d⟩
      · obtain ⟨q1, q2⟩ := two h1 g1 e
        obtain ⟨a, b, d⟩ := rest rfl rfl q2
        exact ⟨by rw [a, q1], b, d⟩
      · obtain ⟨a, _, b⟩ := ihk k' h2 g2 41 41 _ _ (.inl rfl) (.inl rfl) e
        obtain ⟨a2, b2, d2⟩ := rest rfl rfl b
        exact ⟨by rw [a, a2], b2, d2⟩
      · obtain ⟨a, _, b⟩ := ihk k' h2 g2 93 93 _ _ (.inr rfl) (.inr rfl) e
        obtain ⟨a2, b2, d2⟩ := rest rfl rfl b
        exact ⟨by rw [a, a2], b2, d2⟩
theorem tell_inj {p q : Qy} (hp : p.ok) (hq : q.ok) (h : p.tell = q.tell) : p = q := by
  have h2 := tells_inj (.cons p.op p.tx p.l .nil) (.cons q.op q.tx q.l .nil) ⟨hp.1, hp.2, trivial⟩ ⟨hq.1, hq.2, trivial⟩ 41 41 [] [] (.inl rfl) (.inl rfl) (by
    show joinB [tellN p.op p.tx p.l.tells] ++ _ = joinB [tellN q.op q.tx q.l.tells] ++ _
    exact congrArg (fun x => x ++ [41]) h)
  have h3 := h2.1
  cases p; cases q
  simp only [Qf.cons.injEq] at h3
  simp [h3]
def fitN (o : Int) (t : Tx) (ks : List Bool) (had : List Tx) : Bool := if o = 0 then true else if o = 2 then decide (t ∈ had) else if o = 3 then ks.all id else if o = 4 then ks.any id else false
def Qf.fs (had : List Tx) : Qf → List Bool
  | .nil => []
  | .cons o t k r => fitN o t (k.fs had) had :: r.fs had
def Qy.fit (q : Qy) (had : List Tx) : Bool := fitN q.op q.tx (q.l.fs had) had
theorem fs_ls (had : List Tx) : ∀ f : Qf, f.fs had = f.ls.map (fun q => q.fit had)
  | .nil => rfl
  | .cons o t k r => by simp [Qf.fs, Qf.ls, Qy.fit, fs_ls had r]
theorem fs_fq (had : List Tx) (l : List Qy) : (fq l).fs had = l.map (fun q => q.fit had) := by rw [fs_ls, ls_fq]
theorem disBy_all {l : List Qy} (hok : ∀ q ∈ l, q.ok) (p : Qy → Bool) : (disBy Qy.tell [] l).all p = l.all p := by
  rw [Bool.eq_iff_iff]
  simp only [List.all_eq_true]
  constructor
  · intro h q hq
    have h1 : q.tell ∈ (disBy Qy.tell [] l).map Qy.tell := (disBy_keys Qy.tell l [] _).2 ⟨List.mem_map.2 ⟨q, hq, rfl⟩, by simp⟩
    obtain ⟨q', h2, h3⟩ := List.mem_map.1 h1
    have := tell_inj (hok q' (mem_disBy _ _ _ h2)) (hok q hq) h3
    rw [← this]; exact h q' h2
  · exact fun h q hq => h q (mem_disBy _ _ _ hq)
theorem disBy_any {l : List Qy} (hok : ∀ q ∈ l, q.ok) (p : Qy → Bool) : (disBy Qy.tell [] l).any p = l.any p := by
  have := disBy_all hok (fun q => !p q)
  rw [List.all_eq_not_any_not, List.all_eq_not_any_not] at this
  simpa using this
theorem ok_open {op : Int} {l : List Qy} (h : ∀ q ∈ l, q.ok) : ∀ q ∈ openQ op l, q.ok := fun q hq => by
  unfold openQ at hq
  obtain ⟨x, hx, hq⟩ := List.mem_flatMap.1 hq
  split at hq
  · exact ok_ls (h x hx).2 q hq
  · rw [List.mem_singleton.1 hq]; exact h x hx
theorem leftQ_ok {goes op : Int} (hop : op = 3 ∨ op = 4) (hg : goes = 0 ∨ goes = 1) {l : List Qy} (h : ∀ q ∈ l, q.ok) : (leftQ goes op l).ok := by
  match l, h with
  | [], _ => exact ⟨.inl ⟨hg, rfl, rfl⟩, trivial⟩
  | [q], h => exact h q (by simp)
  | a :: b :: r, h => exact ⟨.inr (.inr ⟨hop, rfl⟩), ok_fq h⟩
theorem tg_ok {op : Int} (hop : op = 3 ∨ op = 4) {l : List Qy} (h : ∀ q ∈ l, q.ok) : (tg op l).ok := by
  unfold tg
  have h1 : ∀ q ∈ disBy Qy.tell [] (openQ op l), q.ok := fun q hq => ok_open h q (mem_disBy _ _ _ hq)
  split
  · rename_i q hq; exact h1 q (List.mem_of_find?_eq_some hq)
  · exact leftQ_ok hop (by unfold goesO; split <;> simp) (fun q hq => h1 q (List.mem_filter.1 hq).1)
theorem open_all (had : List Tx) (l : List Qy) : (openQ 3 l).all (fun q => q.fit had) = l.all (fun q => q.fit had) := by
  unfold openQ
  induction l with
  | nil => rfl
  | cons q r ih =>
    rw [List.flatMap_cons, List.all_append, ih, List.all_cons]
    congr 1
    split
    · rename_i h
      have e : q.fit had = fitN q.op q.tx (q.l.fs had) had := rfl
      rw [e, h, fs_ls]
      simp [fitN]
    · simp
theorem open_any (had : List Tx) (l : List Qy) : (openQ 4 l).any (fun q => q.fit had) = l.any (fun q => q.fit had) := by
  unfold openQ
  induction l with
  | nil => rfl
  | cons q r ih =>
    rw [List.flatMap_cons, List.any_append, ih, List.any_cons]
    congr 1
    split
    · rename_i h
      have e : q.fit had = fitN q.op q.tx (q.l.fs had) had := rfl
      rw [e, h, fs_ls]
      simp [fitN]
    · simp
theorem leftQ_fit3 (had : List Tx) (l : List Qy) : (leftQ 0 3 l).fit had = l.all (fun q => q.fit had) := by
  match l with
  | [] => rfl
  | [q] => simp [leftQ]
  | a :: b :: r =>
    show fitN 3 [] ((fq (a :: b :: r)).fs had) had = _
    rw [fs_fq]
    simp [fitN]
theorem leftQ_fit4 (had : List Tx) (l : List Qy) : (leftQ 1 4 l).fit had = l.any (fun q => q.fit had) := by
  match l with
  | [] => rfl
  | [q] => simp [leftQ]
  | a :: b :: r =>
    show fitN 4 [] ((fq (a :: b :: r)).fs had) had = _
    rw [fs_fq]
    simp [fitN]
theorem fit_op0 {q : Qy} (h : q.op = 0) (had : List Tx) : q.fit had = true := by unfold Qy.fit fitN; rw [if_pos h]
theorem fit_op1 {q : Qy} (h : q.op = 1) (had : List Tx) : q.fit had = false := by unfold Qy.fit fitN; rw [h]; simp
theorem tg3_fit {l : List Qy} (h : ∀ q ∈ l, q.ok) (had : List Tx) : (tg 3 l).fit had = l.all (fun q => q.fit had) := by
  rw [← open_all, ← disBy_all (ok_open h)]
  unfold tg
  split
  · rename_i q hq
    have h1 : q.op = 1 := by simpa [rulesO] using List.find?_some hq
    have h2 := List.mem_of_find?_eq_some hq
    rw [fit_op1 h1]
    symm
    rw [Bool.eq_false_iff]
    intro h3
    have := List.all_eq_true.1 h3 q h2
    rw [fit_op1 h1] at this
    cases this
  · have : goesO 3 = 0 := rfl
    rw [this, leftQ_fit3]
    rw [Bool.eq_iff_iff]
    simp only [List.all_eq_true, List.mem_filter]
    constructor
    · intro h q hq
      by_cases h0 : q.op = 0
      · exact fit_op0 h0 _
      · exact h q ⟨hq, by simpa using h0⟩
    · exact fun h q hq => h q hq.1
theorem tg4_fit {l : List Qy} (h : ∀ q ∈ l, q.ok) (had : List Tx) : (tg 4 l).fit had = l.any (fun q => q.fit had) := by
  rw [← open_any, ← disBy_any (ok_open h)]
  unfold tg
  split
  · rename_i q hq
    have h1 : q.op = 0 := by simpa [rulesO] using List.find?_some hq
    have h2 := List.mem_of_find?_eq_some hq
    rw [fit_op0 h1]
    exact (List.any_eq_true.2 ⟨q, h2, fit_op0 h1 _⟩).symm
  · have : goesO 4 = 1 := rfl
    rw [this, leftQ_fit4]
    rw [Bool.eq_iff_iff]
    simp only [List.any_eq_true, List.mem_filter]
    constructor
    · rintro ⟨q, hq, h⟩; exact ⟨q, hq.1, h⟩
    · rintro ⟨q, hq, h⟩
      refine ⟨q, ⟨hq, ?_⟩, h⟩
      simp only [decide_eq_true_eq, ne_eq]
      intro h1
      rw [fit_op1 h1] at h
      cases h
/-- More grams fit more. -/
theorem fs_mono {had had' : List Tx} (h : ∀ x ∈ had, x ∈ had') : ∀ f : Qf, ∀ i : Nat, (f.fs had)[i]? = some true → (f.fs had')[i]? = some true := by
  intro f
  induction f with
  | nil => intro i hi; simp [Qf.fs] at hi
  | cons o t k r ihk ihr =>
    intro i hi
    cases i with
    | succ i => simp only [Qf.fs, List.getElem?_cons_succ] at hi ⊢; exact ihr i hi
    | zero =>
      simp only [Qf.fs, List.getElem?_cons_zero, Option.some.injEq] at hi ⊢
      have hlen : ∀ g : Qf, (g.fs had').length = (g.fs had).length := fun g => by rw [fs_ls, fs_ls]; simp
      unfold fitN at hi ⊢
      split at hi
      · rw [if_pos (by assumption)]
      · rw [if_neg (by assumption)]
        split at hi
        · rw [if_pos (by assumption)]
          simp only [decide_eq_true_eq] at hi ⊢
          exact h _ hi
        · rw [if_neg (by assumption)]
          split at hi
          · rw [if_pos (by assumption)]
            simp only [List.all_eq_true, id_eq] at hi ⊢
            intro x hx
            obtain ⟨j, hj, rfl⟩ := List.getElem_of_mem hx
            have h1 := ihk j (by rw [List.getElem?_eq_getElem (by rw [← hlen]; exact hj), hi _ (List.getElem_mem _)])
            rw [List.getElem?_eq_getElem hj] at h1
            exact Option.some.inj h1
          · rw [if_neg (by assumption)]
            split at hi
            · rw [if_pos (by assumption)]
              simp only [List.any_eq_true, id_eq] at hi ⊢
              obtain ⟨x, hx, hx2⟩ := hi
              obtain ⟨j, hj, rfl⟩ := List.getElem_of_mem hx
              have h1 := ihk j (by rw [List.getElem?_eq_getElem hj, hx2])
              exact ⟨true, List.mem_of_getElem? h1, rfl⟩
            · cases hi
theorem fit_mono {had had' : List Tx} (h : ∀ x ∈ had, x ∈ had') {q : Qy} (hq : q.fit had = true) : q.fit had' = true := by
  have := fs_mono h (.cons q.op q.tx q.l .nil) 0 (by show some (fitN q.op q.tx (q.l.fs had) had) = some true; exact congrArg some hq)
  exact Option.some.inj this
theorem grams_sub (u s v : Tx) : ∀ x ∈ gramsOf s, x ∈ gramsOf (u ++ s ++ v) := fun x hx => by
  unfold gramsOf at hx ⊢
  rw [mem_ups, mem_winds] at hx ⊢
  obtain ⟨h3, a, b, e⟩ := hx
  exact ⟨h3, u ++ a, b ++ v, by rw [e]; simp⟩
theorem queryOf_ok (ts : List Tx) : (queryOf ts).ok := by
  unfold queryOf
  refine tg_ok (.inr rfl) (fun q hq => ?_)
  obtain ⟨s, _, rfl⟩ := List.mem_map.1 hq
  refine tg_ok (.inl rfl) (fun q hq => ?_)
  obtain ⟨g, hg, rfl⟩ := List.mem_map.1 hq
  exact ⟨.inr (.inl ⟨rfl, grams_three hg, rfl⟩), trivial⟩
theorem gramQ_ok {g : Tx} (h : g.length = 3) : (gramQ g).ok := ⟨.inr (.inl ⟨rfl, h, rfl⟩), trivial⟩
theorem all_ok : allQ.ok := ⟨.inl ⟨.inl rfl, rfl, rfl⟩, trivial⟩
theorem queryOf_fit (ts : List Tx) (had : List Tx) : (queryOf ts).fit had = ts.any (fun s => (gramsOf s).all (fun g => decide (g ∈ had))) := by
  unfold queryOf
  have h3 : ∀ s : Tx, ∀ q ∈ (gramsOf s).map gramQ, q.ok := fun s q hq => by
    obtain ⟨g, hg, rfl⟩ := List.mem_map.1 hq
    exact gramQ_ok (grams_three hg)
  rw [tg4_fit (fun q hq => by obtain ⟨s, _, rfl⟩ := List.mem_map.1 hq; exact tg_ok (.inl rfl) (h3 s))]
  rw [List.any_map]
  congr 1
  funext s
  show (tg 3 ((gramsOf s).map gramQ)).fit had = _
  rw [tg3_fit (h3 s), List.all_map]
  rfl
end Go.Proofs.YtnffbmipllhjdaaGreatDoor.G

namespace Go.Proofs.YtnffbmipllhjdaaGreatDoor.G
open Go.RowKit
set_option linter.unusedVariables false
set_option linter.unusedSimpArgs false

abbrev Mg := Tx → Prop
def PtS (p : Pt) (M : Mg) : Prop := match p with
  | .told ts => ∀ s, M s → s ∈ ts
  | .ask q => q.ok ∧ ∀ s, M s → q.fit (gramsOf s) = true
/-- One behind the other; one of them; so many times. -/
def catS : List Mg → Mg
  | [] => fun s => s = []
  | M :: r => fun s => ∃ u v, s = u ++ v ∧ M u ∧ catS r v
theorem PtS.asked_ok {p : Pt} {M : Mg} (h : PtS p M) : p.asked.ok := by
  cases p with
  | told ts => exact queryOf_ok ts
  | ask q => exact h.1
theorem PtS.asked {p : Pt} {M : Mg} (h : PtS p M) {s : Tx} (hs : M s) : p.asked.fit (gramsOf s) = true := by
  cases p with
  | told ts =>
    show (queryOf ts).fit (gramsOf s) = true
    rw [queryOf_fit, List.any_eq_true]
    exact ⟨s, h s hs, List.all_eq_true.2 (fun g hg => by simpa using hg)⟩
  | ask q => exact h.2 s hs
theorem fit_in {q : Qy} {s : Tx} (h : q.fit (gramsOf s) = true) (u v : Tx) : q.fit (gramsOf (u ++ s ++ v)) = true := fit_mono (grams_sub u s v) h
theorem mem_joinL {a b : List Tx} {x y : Tx} (hx : x ∈ a) (hy : y ∈ b) : x ++ y ∈ joinL a b := List.mem_flatMap.2 ⟨x, hx, List.mem_map.2 ⟨y, hy, rfl⟩⟩
theorem mem_bnd {l m : List Tx} (h : bnd l = some m) {x : Tx} : x ∈ m ↔ x ∈ l := by
  unfold bnd at h
  split at h
  · rw [← Option.some.inj h]; exact mem_ups
  · cases h
inductive PtL : List Pt → List Mg → Prop
  | nil : PtL [] []
  | cons {p : Pt} {M : Mg} {l : List Pt} {Ms : List Mg} : PtS p M → PtL l Ms → PtL (p :: l) (M :: Ms)
theorem PtL.length {l : List Pt} {Ms : List Mg} (h : PtL l Ms) : l.length = Ms.length := by
  induction h with
  | nil => rfl
  | cons _ _ ih => simp [ih]
theorem PtL.drop {l : List Pt} {Ms : List Mg} (h : PtL l Ms) (n : Nat) : PtL (l.drop n) (Ms.drop n) := by
  induction n generalizing l Ms with
  | zero => exact h
  | succ n ih => cases h with
    | nil => exact .nil
    | cons _ h => exact ih h
theorem longG_sound {l : List Pt} {Ms : List Mg} (h : PtL l Ms) : ∀ (ts : List Tx) (u v : Tx), u ∈ ts → catS (Ms.take (longG ts l).2) v → u ++ v ∈ (longG ts l).1 := by
  induction h with
  | nil => intro ts u v hu hv; simp only [longG, List.take_zero, catS] at hv ⊢; rw [hv, List.append_nil]; exact hu
  | @cons p M l Ms hp hl ih =>
    intro ts u v hu hv
    cases p with
    | ask q => simp only [longG, List.take_zero, catS] at hv ⊢; rw [hv, List.append_nil]; exact hu
    | told pt =>
      cases hb : bnd (joinL ts pt) with
      | none => simp only [longG, hb, List.take_zero, catS] at hv ⊢; rw [hv, List.append_nil]; exact hu
      | some m =>
        simp only [longG, hb, List.take_succ_cons, catS] at hv ⊢
        obtain ⟨a, b, rfl, ha, hb2⟩ := hv
        rw [← List.append_assoc]
        exact ih m (u ++ a) b ((mem_bnd hb).2 (mem_joinL hu (hp a ha))) hb2
theorem longest_sound {l : List Pt} {Ms : List Mg} (h : PtL l Ms) {v : Tx} (hv : catS (Ms.take (longest l).2) v) : v ∈ (longest l).1 := by
  have := longG_sound h [[]] [] v (by simp) hv
  rw [List.nil_append] at this
  exact this
theorem longG_le (l : List Pt) : ∀ ts, (longG ts l).2 ≤ l.length := by
  induction l with
  | nil => intro ts; simp [longG]
  | cons p r ih =>
    intro ts
    cases p with
    | ask q => simp [longG]
    | told pt =>
      cases hb : bnd (joinL ts pt) with
      | none => simp [longG, hb]
      | some m => simp only [longG, hb, List.length_cons]; have := ih m; omega
theorem longest_le (l : List Pt) : (longest l).2 ≤ l.length := longG_le l _
theorem catS_app (A B : List Mg) (s : Tx) : catS (A ++ B) s ↔ ∃ u v, s = u ++ v ∧ catS A u ∧ catS B v := by
  induction A generalizing s with
  | nil => exact ⟨fun h => ⟨[], s, rfl, rfl, h⟩, by rintro ⟨u, v, rfl, hu, hv⟩; have : u = [] := hu; subst this; exact hv⟩
  | cons M A ih =>
    constructor
    · rintro ⟨u, v, rfl, hu, hv⟩
      obtain ⟨a, b, rfl, ha, hb⟩ := (ih v).1 hv
      exact ⟨u ++ a, b, by simp, ⟨u, a, rfl, hu, ha⟩, hb⟩
    · rintro ⟨_, b, rfl, ⟨u, a, rfl, hu, ha⟩, hb⟩
      exact ⟨u, a ++ b, by simp, hu, (ih _).2 ⟨a, b, rfl, ha, hb⟩⟩
/-- A part whose first one has nothing to tell asks. -/
theorem zero_ask {p : Pt} {r : List Pt} {M : Mg} (hp : PtS p M) (hb : ∀ ts, p = .told ts → bnd (joinL [[]] ts) ≠ none) (h : (longest (p :: r)).2 = 0) : ∃ q, p = .ask q := by
  cases p with
  | ask q => exact ⟨q, rfl⟩
  | told ts =>
    exfalso
    have := hb ts rfl
    unfold longest at h
    cases hb2 : bnd (joinL [[]] ts) with
    | none => exact this hb2
    | some m => simp [longG, hb2] at h
/-- Texts that are told lie within the bounds. -/
def Bd (ts : List Tx) : Prop := ts.length ≤ 32 ∧ (∀ t ∈ ts, t.length ≤ 32) ∧ Asc ts
theorem bnd_bd {l m : List Tx} (h : bnd l = some m) : Bd m := by
  unfold bnd at h
  split at h
  · rename_i hh
    rw [← Option.some.inj h]
    exact ⟨by unfold ups; rw [srt_len]; exact hh.1, fun t ht => hh.2 t (mem_ups.1 ht), ups_asc l⟩
  · cases h
theorem joinL_one (ts : List Tx) : joinL [[]] ts = ts := by simp [joinL]
theorem dis_nodup_self {α : Type} [DecidableEq α] {l : List α} (h : l.Nodup) : dis [] l = l := dis_of_nodup h [] (fun x _ hx => by simp at hx)
theorem bnd_of_bd {ts : List Tx} (h : Bd ts) : bnd ts = some ts := by
  unfold bnd
  rw [dis_nodup_self (asc_nodup h.2.2), if_pos ⟨h.1, h.2.1⟩]
  congr 1
  exact asc_ext (ups_asc _) h.2.2 (fun x => mem_ups)
def PtB (p : Pt) : Prop := ∀ ts, p = .told ts → Bd ts
theorem PtB.no {p : Pt} (h : PtB p) : ∀ ts, p = .told ts → bnd (joinL [[]] ts) ≠ none := fun ts e => by rw [joinL_one, bnd_of_bd (h ts e)]; simp
theorem longG_bd {l : List Pt} : ∀ {ts : List Tx}, Bd ts → Bd (longG ts l).1 := by
  induction l with
  | nil => intro ts h; exact h
  | cons p r ih =>
    intro ts h
    cases p with
    | ask q => exact h
    | told pt =>
      cases hb : bnd (joinL ts pt) with
      | none => simp only [longG, hb]; exact h
      | some m => simp only [longG, hb]; exact ih (bnd_bd hb)
theorem bd_one : Bd [[]] := ⟨by simp, by simp, by simp [Asc]⟩
theorem longest_bd (l : List Pt) : Bd (longest l).1 := longG_bd bd_one
theorem pieces_sound (f : Nat) : ∀ {l : List Pt} {Ms : List Mg}, PtL l Ms → (∀ p ∈ l, PtB p) → ∀ q ∈ pieces f l, q.ok ∧ ∀ s, catS Ms s → q.fit (gramsOf s) = true := by
  induction f with
  | zero => intro l Ms _ _ q hq; simp [pieces] at hq
  | succ f ih =>
    intro l Ms h hB q hq
    cases h with
    | nil => simp [pieces] at hq
    | @cons p M r Ms hp hl =>
      unfold pieces at hq
      split at hq
      · rename_i h0
        obtain ⟨q', rfl⟩ := zero_ask hp (hB p (by simp)).no h0
        rcases List.mem_cons.1 hq with rfl | hq
        · refine ⟨hp.1, fun s hs => ?_⟩
          obtain ⟨u, v, rfl, hu, _⟩ := hs
          exact fit_in (hp.2 u hu) [] v
        · obtain ⟨h1, h2⟩ := ih hl (fun p hp => hB p (by simp [hp])) q hq
          refine ⟨h1, fun s hs => ?_⟩
          obtain ⟨u, v, rfl, _, hv⟩ := hs
          have := fit_in (h2 v hv) u []
          simpa using this
      · rename_i h0
        have hL := PtL.cons hp hl
        rcases List.mem_cons.1 hq with rfl | hq
        · refine ⟨queryOf_ok _, fun s hs => ?_⟩
          rw [← List.take_append_drop (longest (p :: r)).2 (M :: Ms), catS_app] at hs
          obtain ⟨u, v, rfl, hu, _⟩ := hs
          have h1 := longest_sound hL hu
          have h2 : PtS (.told (longest (p :: r)).1) (fun s => s = u) := fun s hs => by rw [hs]; exact h1
          exact fit_in (PtS.asked h2 rfl) [] v
        · obtain ⟨h1, h2⟩ := ih (hL.drop (longest (p :: r)).2) (fun p hp => hB p (List.mem_of_mem_drop hp)) q hq
          refine ⟨h1, fun s hs => ?_⟩
          rw [← List.take_append_drop (longest (p :: r)).2 (M :: Ms), catS_app] at hs
          obtain ⟨u, v, rfl, _, hv⟩ := hs
          have := fit_in (h2 v hv) u []
          simpa using this
theorem allOf_sound {l : List Pt} {Ms : List Mg} (h : PtL l Ms) (hB : ∀ p ∈ l, PtB p) : PtS (allOf l) (catS Ms) := by
  unfold allOf
  split
  · rename_i hn
    intro s hs
    exact longest_sound h (by rw [hn, h.length, List.take_length]; exact hs)
  · have hp := pieces_sound l.length h hB
    refine ⟨tg_ok (.inl rfl) (fun q hq => (hp q hq).1), fun s hs => ?_⟩
    rw [tg3_fit (fun q hq => (hp q hq).1), List.all_eq_true]
    exact fun q hq => (hp q hq).2 s hs
theorem allOf_bd (l : List Pt) : PtB (allOf l) := fun ts e => by
  unfold allOf at e
  split at e
  · cases e; exact longest_bd l
  · cases e
theorem united_sound {l : List Pt} {Ms : List Mg} (h : PtL l Ms) : ∀ {ts : List Tx}, unitedT l = some ts → ∀ M ∈ Ms, ∀ s, M s → s ∈ ts := by
  induction h with
  | nil => intro ts _ M hM; simp at hM
  | @cons p M l Ms hp hl ih =>
    intro ts e M' hM s hs
    cases p with
    | ask q => simp [unitedT] at e
    | told pt =>
      simp only [unitedT, Option.map_eq_some_iff] at e
      obtain ⟨tr, e1, rfl⟩ := e
      rcases List.mem_cons.1 hM with rfl | hM
      · exact List.mem_append_left _ (hp s hs)
      · exact List.mem_append_right _ (ih e1 M' hM s hs)
theorem PtL.get {l : List Pt} {Ms : List Mg} (h : PtL l Ms) : (∀ p ∈ l, p.asked.ok) ∧ ∀ M ∈ Ms, ∃ p ∈ l, PtS p M := by
  induction h with
  | nil => exact ⟨fun p hp => by simp at hp, fun M hM => by simp at hM⟩
  | @cons p M l Ms hp hl ih =>
    refine ⟨fun x hx => ?_, fun N hN => ?_⟩
    · rcases List.mem_cons.1 hx with rfl | hx
      · exact hp.asked_ok
      · exact ih.1 x hx
    · rcases List.mem_cons.1 hN with rfl | hN
      · exact ⟨p, by simp, hp⟩
      · obtain ⟨q, hq, h⟩ := ih.2 N hN; exact ⟨q, by simp [hq], h⟩
theorem oneOf_sound {l : List Pt} {Ms : List Mg} (h : PtL l Ms) : PtS (oneOf l) (fun s => ∃ M ∈ Ms, M s) := by
  unfold oneOf
  split
  · rename_i ts hb
    obtain ⟨tu, h1, h2⟩ := Option.bind_eq_some_iff.1 hb
    rintro s ⟨M, hM, hs⟩
    exact (mem_bnd h2).2 (united_sound h h1 M hM s hs)
  · obtain ⟨h1, h2⟩ := h.get
    have h3 : ∀ q ∈ l.map Pt.asked, q.ok := fun q hq => by obtain ⟨p, hp, rfl⟩ := List.mem_map.1 hq; exact h1 p hp
    refine ⟨tg_ok (.inr rfl) h3, ?_⟩
    rintro s ⟨M, hM, hs⟩
    obtain ⟨p, hp, hS⟩ := h2 M hM
    rw [tg4_fit h3, List.any_eq_true]
    exact ⟨_, List.mem_map.2 ⟨p, hp, rfl⟩, hS.asked hs⟩
theorem oneOf_bd (l : List Pt) : PtB (oneOf l) := fun ts e => by
  unfold oneOf at e
  split at e
  · rename_i ts' hb
    cases e
    obtain ⟨tu, _, h2⟩ := Option.bind_eq_some_iff.1 hb
    exact bnd_bd h2
  · cases e
theorem repeated_bd (p : Pt) (mn mx : Int) : PtB (repeated p mn mx) := fun ts e => by
  unfold repeated at e
  split at e
  · cases e; exact longest_bd _
  · split at e <;> cases e
theorem sz_open (op : Int) (l : List Qy) : ((openQ op l).map Qy.sz).sum ≤ (l.map Qy.sz).sum := by
  unfold openQ
  induction l with
  | nil => simp
  | cons q r ih =>
    rw [List.flatMap_cons, List.map_append, List.sum_append, List.map_cons, List.sum_cons]
    have : ((if q.op = op then q.l.ls else [q]).map Qy.sz).sum ≤ q.sz := by
      split
      · rw [sz_ls]; unfold Qy.sz; omega
      · simp
    omega
theorem sum_sub {α : Type} (f : α → Nat) (p : α → Bool) (l : List α) : ((l.filter p).map f).sum ≤ (l.map f).sum := by
  induction l with
  | nil => simp
  | cons a r ih =>
    by_cases h : p a
    · rw [List.filter_cons_of_pos h]; simp only [List.map_cons, List.sum_cons]; omega
    · rw [List.filter_cons_of_neg h]; simp only [List.map_cons, List.sum_cons]; omega
theorem sum_disBy (l : List Qy) : ∀ had : List Tx, ((disBy Qy.tell had l).map Qy.sz).sum ≤ (l.map Qy.sz).sum := by
  induction l with
  | nil => intro had; simp [disBy]
  | cons a r ih =>
    intro had
    by_cases h : a.tell ∈ had
    · simp only [disBy, if_pos h, List.map_cons, List.sum_cons]; have := ih had; omega
    · simp only [disBy, if_neg h, List.map_cons, List.sum_cons]; have := ih (a.tell :: had); omega
theorem sum_mem {α : Type} (f : α → Nat) {l : List α} {x : α} (h : x ∈ l) : f x ≤ (l.map f).sum := by
  induction l with
  | nil => simp at h
  | cons a r ih =>
    rcases List.mem_cons.1 h with rfl | h
    · simp
    · have := ih h; simp only [List.map_cons, List.sum_cons]; omega
theorem sz_fq (l : List Qy) : (fq l).sz = (l.map Qy.sz).sum := by rw [← sz_ls, ls_fq]
theorem leftQ_sz (goes op : Int) (l : List Qy) : (leftQ goes op l).sz ≤ 1 + (l.map Qy.sz).sum := by
  match l with
  | [] => simp [leftQ, Qy.sz, Qf.sz]
  | [q] => simp [leftQ]
  | a :: b :: r =>
    show 1 + (fq (a :: b :: r)).sz ≤ _
    rw [sz_fq]
    exact Nat.le_refl _
theorem tg_sz (op : Int) (l : List Qy) : (tg op l).sz ≤ 1 + (l.map Qy.sz).sum := by
  have h1 := sum_disBy (openQ op l) []
  have h2 := sz_open op l
  unfold tg
  split
  · rename_i q hq
    have := sum_mem Qy.sz (List.mem_of_find?_eq_some hq)
    omega
  · have h3 := leftQ_sz (goesO op) op ((disBy Qy.tell [] (openQ op l)).filter (fun q => q.op ≠ goesO op))
    have h4 := sum_sub Qy.sz (fun q => decide (q.op ≠ goesO op)) (disBy Qy.tell [] (openQ op l))
    omega
theorem sum_le {α : Type} (f : α → Nat) (l : List α) (k : Nat) (h : ∀ x ∈ l, f x ≤ k) : (l.map f).sum ≤ l.length * k := by
  induction l with
  | nil => simp
  | cons a r ih =>
    simp only [List.map_cons, List.sum_cons, List.length_cons, Nat.add_mul]
    have := ih (fun x hx => h x (by simp [hx]))
    have := h a (by simp)
    omega
theorem queryOf_sz {ts : List Tx} (h : Bd ts) : (queryOf ts).sz ≤ 993 := by
  unfold queryOf
  have h1 := tg_sz 4 (ts.map (fun s => tg 3 ((gramsOf s).map gramQ)))
  have h2 : ((ts.map (fun s => tg 3 ((gramsOf s).map gramQ))).map Qy.sz).sum ≤ ts.length * 31 := by
    rw [List.map_map]
    refine sum_le _ ts 31 (fun s hs => ?_)
    show (tg 3 ((gramsOf s).map gramQ)).sz ≤ 31
    have h3 := tg_sz 3 ((gramsOf s).map gramQ)
    have h4 : (((gramsOf s).map gramQ).map Qy.sz).sum = (gramsOf s).length := by
      rw [List.map_map]
      induction gramsOf s with
      | nil => rfl
      | cons a r ih => simp only [List.map_cons, List.sum_cons, List.length_cons, ih]; simp [gramQ, Qy.sz, Qf.sz]; omega
    have h5 : (gramsOf s).length ≤ 30 := by
      have h6 := ups_len (winds s)
      have h7 := winds_len s
      have h8 := h.2.1 s hs
      unfold gramsOf
      omega
    omega
  have h3 : ts.length * 31 ≤ 32 * 31 := Nat.mul_le_mul_right _ h.1
  omega
def PtZ (p : Pt) (n : Nat) : Prop := p.asked.sz ≤ n ∧ p.q.sz ≤ n
theorem ptz_told {ts : List Tx} (h : Bd ts) {n : Nat} (hn : 993 ≤ n) : PtZ (.told ts) n := ⟨Nat.le_trans (queryOf_sz h) hn, by show 1 ≤ n; omega⟩
theorem sum_drop_le {α : Type} (f : α → Nat) (l : List α) (n : Nat) : ((l.drop n).map f).sum ≤ (l.map f).sum := by
  conv => rhs; rw [← List.take_append_drop n l]
  rw [List.map_append, List.sum_append]
  omega
theorem pieces_sz (w : Pt → Nat) (f : Nat) : ∀ l : List Pt, (∀ p ∈ l, PtZ p (w p) ∧ 993 ≤ w p) → ((pieces f l).map Qy.sz).sum ≤ (l.map w).sum := by
  induction f with
  | zero => intro l _; simp [pieces]
  | succ f ih =>
    intro l h
    cases l with
    | nil => simp [pieces]
    | cons p r =>
      unfold pieces
      split
      · simp only [List.map_cons, List.sum_cons]
        have := ih r (fun x hx => h x (by simp [hx]))
        have := (h p (by simp)).1.2
        omega
      · rename_i h0
        obtain ⟨k, hk⟩ : ∃ k, (longest (p :: r)).2 = k + 1 := ⟨(longest (p :: r)).2 - 1, by omega⟩
        rw [hk, List.drop_succ_cons]
        simp only [List.map_cons, List.sum_cons]
        have h1 := ih (r.drop k) (fun x hx => h x (List.mem_cons_of_mem _ (List.mem_of_mem_drop hx)))
        have h2 := sum_drop_le w r k
        have h3 := queryOf_sz (longest_bd (p :: r))
        have h4 := (h p (by simp)).2
        omega
theorem pieces_len (f : Nat) : ∀ l : List Pt, (pieces f l).length ≤ l.length := by
  induction f with
  | zero => intro l; simp [pieces]
  | succ f ih =>
    intro l
    cases l with
    | nil => simp [pieces]
    | cons p r =>
      unfold pieces
      split
      · simp only [List.length_cons]; have := ih r; omega
      · rename_i h0
        have := ih ((p :: r).drop (longest (p :: r)).2)
        rw [List.length_drop] at this
        simp only [List.length_cons] at this ⊢
        omega
theorem allOf_sz (w : Pt → Nat) (l : List Pt) (h : ∀ p ∈ l, PtZ p (w p) ∧ 993 ≤ w p) : PtZ (allOf l) (1000 + (l.map w).sum) := by
  unfold allOf
  split
  · exact ptz_told (longest_bd l) (by omega)
  · have h1 := pieces_sz w l.length l h
    have h2 := tg_sz 3 (pieces l.length l)
    exact ⟨by show (tg 3 _).sz ≤ _; omega, by show (tg 3 _).sz ≤ _; omega⟩
theorem asked_sum (w : Pt → Nat) (l : List Pt) (h : ∀ p ∈ l, PtZ p (w p) ∧ 993 ≤ w p) : ((l.map Pt.asked).map Qy.sz).sum ≤ (l.map w).sum := by
  rw [List.map_map]
  induction l with
  | nil => simp
  | cons a r ih =>
    simp only [List.map_cons, List.sum_cons]
    exact Nat.add_le_add (h a (by simp)).1.1 (ih (fun x hx => h x (by simp [hx])))
theorem oneOf_sz (w : Pt → Nat) (l : List Pt) (h : ∀ p ∈ l, PtZ p (w p) ∧ 993 ≤ w p) : PtZ (oneOf l) (1000 + (l.map w).sum) := by
  have hb := oneOf_bd l
  unfold oneOf at hb ⊢
  split
  · rename_i ts hs
    rw [hs] at hb
    exact ptz_told (hb ts rfl) (by omega)
  · have h1 := asked_sum w l h
    have h2 := tg_sz 4 (l.map Pt.asked)
    exact ⟨by show (tg 4 _).sz ≤ _; omega, by show (tg 4 _).sz ≤ _; omega⟩
theorem repeated_sz (p : Pt) (mn mx : Int) (n : Nat) (h : PtZ p n) (hn : 993 ≤ n) : PtZ (repeated p mn mx) n := by
  unfold repeated
  split
  · exact ptz_told (longest_bd _) hn
  · split
    · exact ⟨by show 1 ≤ n; omega, by show 1 ≤ n; omega⟩
    · exact ⟨h.1, h.1⟩
end Go.Proofs.YtnffbmipllhjdaaGreatDoor.G
