/-
  Patterns as trees; rows of patterns; atoms; mathematics of what is read.
-/
import Derived.Test.YtkfdikpnnkbgaaaGreatDoorJ
import Derived.Laws.AppendOwnNone
import Derived.Deep.AppendLies
namespace Go.Proofs.YtkfdikpnnkbgaaaGreatDoor
open Go.RowKit
set_option linter.unusedVariables false
set_option linter.unusedSimpArgs false

/-- One of a pattern, without its members. -/
structure Nd where
  k : Int
  s : S4
  mn : Int
  mx : Int
/-- A list of patterns: the first one, its members, the rest. -/
inductive Fo where
  | nil : Fo
  | cons : Nd → Fo → Fo → Fo
/-- A pattern: itself, its members. -/
abbrev Tr := Nd × Fo
def Fo.len : Fo → Nat
  | .nil => 0
  | .cons _ _ r => r.len + 1
def Fo.snoc : Fo → Tr → Fo
  | .nil, t => .cons t.1 t.2 .nil
  | .cons n k r, t => .cons n k (r.snoc t)
theorem Fo.len_snoc (f : Fo) (t : Tr) : (f.snoc t).len = f.len + 1 := by
  induction f with
  | nil => rfl
  | cons n k r _ ih => simp [Fo.snoc, Fo.len, ih]
/-- What comes out: a place where it goes wrong, or a pattern and the place behind it. -/
abbrev Out := Except Nat (Tr × Nat)
def leaf (x : S4) : Tr := (⟨1, x, 0, 0⟩, .nil)
def rep (t : Tr) (mn mx : Int) : Tr := (⟨4, noSet, mn, mx⟩, .cons t.1 t.2 .nil)
def tog (k : Int) : Fo → Tr
  | .cons n kids .nil => (n, kids)
  | f => (⟨k, noSet, 0, 0⟩, f)
def atomM (br : Nat → Out) (s : ByteArray) (a : Nat) : Out :=
  if bt s a = 40 then br a else if (setR s a).2.2 = true then .ok (leaf (setR s a).1, (setR s a).2.1) else .error (setR s a).2.1
def pieceM (br : Nat → Out) (s : ByteArray) (a : Nat) : Out := match atomM br s a with
  | .error p => .error p
  | .ok (t, d) => if (timesR s d).2.2 = true then (if (timesR s d).1.1 = 4 then .ok (rep t (timesR s d).1.2.1 (timesR s d).1.2.2, (timesR s d).2.1) else .ok (t, (timesR s d).2.1)) else .error (timesR s d).2.1
def seqL (br : Nat → Out) (s : ByteArray) : Nat → Fo → Nat → Except Nat (Fo × Nat)
  | 0, f, a => .ok (f, a)
  | n + 1, f, a => if a < s.size ∧ bt s a ≠ 124 ∧ bt s a ≠ 41 then (match pieceM br s a with
      | .error p => .error p
      | .ok (t, d) => seqL br s n (f.snoc t) d) else .ok (f, a)
def seqM (br : Nat → Out) (s : ByteArray) (a : Nat) : Out := match seqL br s (s.size + 1 - a) .nil a with
  | .error p => .error p
  | .ok (f, d) => .ok (tog 2 f, d)
def altL (br : Nat → Out) (s : ByteArray) : Nat → Fo → Nat → Except Nat (Fo × Nat)
  | 0, f, a => .ok (f, a)
  | n + 1, f, a => if bt s a = 124 then (match seqM br s (a + 1) with
      | .error p => .error p
      | .ok (t, d) => altL br s n (f.snoc t) d) else .ok (f, a)
def altM (br : Nat → Out) (s : ByteArray) (a : Nat) : Out := match seqM br s a with
  | .error p => .error p
  | .ok (t, d) => match altL br s (s.size + 1 - d) (Fo.nil.snoc t) d with
    | .error p => .error p
    | .ok (f, d2) => .ok (tog 3 f, d2)
def brM (s : ByteArray) : Nat → Nat → Out
  | 0, a => .error a
  | m + 1, a => if (opR s a).2 = true then (match altM (brM s m) s (opR s a).1 with
      | .error p => .error p
      | .ok (t, d) => if bt s d = 41 then .ok (t, d + 1) else .error d) else .error (opR s a).1
def parseM (s : ByteArray) : Except Nat Tr := match altM (brM s 32) s 0 with
  | .error p => .error p
  | .ok (t, d) => if d = s.size then .ok t else .error d

/-- In w the cells xs are a list of patterns f; the rows of members lie in blocks in P. -/
def Kd (w : World) (P : Nat → Prop) : Fo → List Value → Prop
  | .nil, xs => xs = []
  | .cons n kids rest, xs => ∃ v ys zs, xs = (reA n.k n.s v n.mn n.mx).toList ++ ys ∧ w.ownsRow 0 27 8 v kids.len zs ∧ (∀ b, v.ownBlock = some b → P b) ∧ Kd w P kids zs ∧ Kd w P rest ys
/-- The value x is the pattern t in memory. -/
def TrV (w : World) (P : Nat → Prop) (x : Value) (t : Tr) : Prop :=
  ∃ v zs, x = reV t.1.k t.1.s v t.1.mn t.1.mx ∧ w.ownsRow 0 27 8 v t.2.len zs ∧ (∀ b, v.ownBlock = some b → P b) ∧ Kd w P t.2 zs
theorem owns8_of_block {w w' : World} {base n : Nat} {v : Value} {xs : List Value} (h : w.ownsRow base 27 8 v n xs) (hb : ∀ k, v.ownBlock = some k → w'.heap[k]? = w.heap[k]?) : w'.ownsRow base 27 8 v n xs := by
  refine ⟨h.1, ?_⟩
  rcases h.2 with h1 | ⟨g, cap, cur, rfl, h2, h3, h4⟩
  · exact .inl h1
  · exact .inr ⟨g, cap, cur, rfl, h2, (hb g rfl).trans h3, h4⟩
theorem owns8_mono {w : World} {base base' n : Nat} {v : Value} {xs : List Value} (h : w.ownsRow base 27 8 v n xs) (hb : base' ≤ base) : w.ownsRow base' 27 8 v n xs := by
  refine ⟨h.1, ?_⟩
  rcases h.2 with h1 | ⟨g, cap, cur, rfl, h2, h3⟩
  · exact .inl h1
  · exact .inr ⟨g, cap, cur, rfl, by omega, h3⟩
theorem owns8_lt {w : World} {base n : Nat} {v : Value} {xs : List Value} (h : w.ownsRow base 27 8 v n xs) {k : Nat} (hk : v.ownBlock = some k) : base ≤ k ∧ k < w.heap.size := by
  rcases h.2 with ⟨rfl, _⟩ | ⟨g, cap, cur, rfl, h2, h3, _⟩
  · cases hk
  · cases hk; exact ⟨h2, (Array.getElem?_eq_some_iff.1 h3).1⟩
theorem owns8_val {w : World} {base n : Nat} {v : Value} {xs : List Value} (h : w.ownsRow base 27 8 v n xs) : ∃ a cap, v = .slice a n cap ∧ n ≤ cap ∧ cap ≤ maxLen := by
  rcases h.2 with ⟨rfl, rfl⟩ | ⟨g, cap, cur, rfl, h2, h3, h4, h5, _⟩
  · exact ⟨none, 0, rfl, Nat.le_refl _, Nat.zero_le _⟩
  · exact ⟨some ⟨g, 0, none⟩, cap, rfl, h4, h5⟩
theorem Kd.kept {w w' : World} {P : Nat → Prop} (hb : ∀ b, P b → b < w.heap.size → w'.heap[b]? = w.heap[b]?) : ∀ {f : Fo} {xs : List Value}, Kd w P f xs → Kd w' P f xs
  | .nil, _, h => h
  | .cons n kids rest, xs, ⟨v, ys, zs, e, o, p, k1, k2⟩ => ⟨v, ys, zs, e, owns8_of_block o (fun k hk => hb k (p k hk) (owns8_lt o hk).2), p, Kd.kept hb k1, Kd.kept hb k2⟩
theorem Kd.mono {w : World} {P P' : Nat → Prop} (hp : ∀ b, b < w.heap.size → P b → P' b) : ∀ {f : Fo} {xs : List Value}, Kd w P f xs → Kd w P' f xs
  | .nil, _, h => h
  | .cons n kids rest, xs, ⟨v, ys, zs, e, o, p, k1, k2⟩ => ⟨v, ys, zs, e, o, fun b hb => hp b (owns8_lt o hb).2 (p b hb), Kd.mono hp k1, Kd.mono hp k2⟩
theorem Kd.len {w : World} {P : Nat → Prop} : ∀ {f : Fo} {xs : List Value}, Kd w P f xs → xs.length = f.len * 8
  | .nil, xs, h => by cases h; rfl
  | .cons n kids rest, xs, ⟨v, ys, zs, e, o, p, k1, k2⟩ => by rw [e, List.length_append, Kd.len k2]; simp [reA, Fo.len]; omega
theorem Kd.snoc {w : World} {P : Nat → Prop} {t : Tr} {v : Value} {zs : List Value} (ho : w.ownsRow 0 27 8 v t.2.len zs) (hp : ∀ b, v.ownBlock = some b → P b) (hk : Kd w P t.2 zs) : ∀ {f : Fo} {xs : List Value}, Kd w P f xs → Kd w P (f.snoc t) (xs ++ (reA t.1.k t.1.s v t.1.mn t.1.mx).toList)
  | .nil, xs, h => by cases h; exact ⟨v, [], zs, by simp, ho, hp, hk, rfl⟩
  | .cons n kids rest, xs, ⟨u, ys, us, e, o, p, k1, k2⟩ => ⟨u, ys ++ (reA t.1.k t.1.s v t.1.mn t.1.mx).toList, us, by rw [e, List.append_assoc], o, p, k1, Kd.snoc ho hp hk k2⟩
theorem TrV.kept {w w' : World} {P : Nat → Prop} {x : Value} {t : Tr} (h : TrV w P x t) (hb : ∀ b, P b → b < w.heap.size → w'.heap[b]? = w.heap[b]?) : TrV w' P x t := by
  obtain ⟨v, zs, e, o, p, k⟩ := h
  exact ⟨v, zs, e, owns8_of_block o (fun k hk => hb k (p k hk) (owns8_lt o hk).2), p, k.kept hb⟩
theorem TrV.mono {w : World} {P P' : Nat → Prop} {x : Value} {t : Tr} (h : TrV w P x t) (hp : ∀ b, b < w.heap.size → P b → P' b) : TrV w P' x t := by
  obtain ⟨v, zs, e, o, p, k⟩ := h
  exact ⟨v, zs, e, o, fun b hb => hp b (owns8_lt o hb).2 (p b hb), k.mono hp⟩
/-- The first of a list that is one. -/
theorem info28 : ∃ i, Tryz.prog.info? 27 = some i ∧ i.zero = some (reV 0 noSet (.slice none 0 0) 0 0) ∧ i.size = 8 ∧ i.bytes = 80 := by
  have h : (Tryz.prog.info? 27).map (fun i => (i.zero, i.size, i.bytes)) = some (some (reV 0 noSet (.slice none 0 0) 0 0), 8, 80) := by kernel_rfl
  cases hi : Tryz.prog.info? 27 with
  | none => rw [hi] at h; cases h
  | some i =>
    rw [hi] at h
    simp only [Option.map_some, Option.some.injEq, Prod.mk.injEq] at h
    exact ⟨i, rfl, h.1, h.2.1, h.2.2⟩
open Go.RowKit
set_option linter.unusedVariables false
set_option linter.unusedSimpArgs false

theorem ld3 {w : World} {ad : Addr} {v : Value} (h : w.cell? ad = some v) : (loadVar 3 ad).run Tryz.prog w = .ok v w := by
  have ha : ∀ w, (isAgg 3).run Tryz.prog w = .ok false w := fun w => by kernel_rfl
  simp [loadVar, ha, go_sem, h]
theorem ld4 {w : World} {ad : Addr} {v : Value} (h : w.cell? ad = some v) : (loadVar 4 ad).run Tryz.prog w = .ok v w := by
  have ha : ∀ w, (isAgg 4).run Tryz.prog w = .ok false w := fun w => by kernel_rfl
  simp [loadVar, ha, go_sem, h]
theorem ld9 {w : World} {ad : Addr} {v : Value} (h : w.cell? ad = some v) : (loadVar 9 ad).run Tryz.prog w = .ok v w := by
  have ha : ∀ w, (isAgg 9).run Tryz.prog w = .ok false w := fun w => by kernel_rfl
  simp [loadVar, ha, go_sem, h]
theorem ld26 {w : World} {ad : Addr} {v : Value} (h : w.cell? ad = some v) : (loadVar 25 ad).run Tryz.prog w = .ok v w := by
  have ha : ∀ w, (isAgg 25).run Tryz.prog w = .ok false w := fun w => by kernel_rfl
  simp [loadVar, ha, go_sem, h]
theorem ld59 {w : World} {ad : Addr} {v : Value} (h : w.cell? ad = some v) : (loadVar 160 ad).run Tryz.prog w = .ok v w := by
  have ha : ∀ w, (isAgg 160).run Tryz.prog w = .ok false w := fun w => by kernel_rfl
  simp [loadVar, ha, go_sem, h]
theorem ld70 {w : World} {ad : Addr} {v : Value} (h : w.cell? ad = some v) : (loadVar 176 ad).run Tryz.prog w = .ok v w := by
  have ha : ∀ w, (isAgg 176).run Tryz.prog w = .ok false w := fun w => by kernel_rfl
  simp [loadVar, ha, go_sem, h]
theorem load28c {w : World} {b o : Nat} {k : Int} {s : S4} {l : Value} {mn mx : Int} (h : ∀ j v, (reA k s l mn mx)[j]? = some v → w.cell? ⟨b, o + j, none⟩ = some v) : (loadVar 27 ⟨b, o, none⟩).run Tryz.prog w = .ok (reV k s l mn mx) w := by
  have h0 := h 0 _ rfl
  have h1 := h 1 _ rfl
  have h2 := h 2 _ rfl
  have h3 := h 3 _ rfl
  have h4 := h 4 _ rfl
  have h5 := h 5 _ rfl
  have h6 := h 6 _ rfl
  have h7 := h 7 _ rfl
  have hz : ∀ w, (sizeOf 27).run Tryz.prog w = .ok 8 w := fun w => by kernel_rfl
  have ha : ∀ w, (isAgg 27).run Tryz.prog w = .ok true w := fun w => by kernel_rfl
  simp only [Nat.add_zero] at h0
  simp [loadVar, hz, ha, loadCells, go_sem, h0, h1, h2, h3, h4, h5, h6, h7, add_plain]
  rfl
section
variable {S : Nat → Prop} {w0 w w' : World} {L : List Ent} {ops : Array Oper} {rest : List Oper} {a : Act} {Q : Exit → Act → World → Prop} {dst : Option Nat} {x y : Operand} {ty : TypeId} {pos : String} {after : Array Edge}
/-- A cell of a box is loaded. -/
theorem wl_ld3 (i j : Nat) (H : St S w0 w L) {b : Bool} {g : Nat} {t : TypeId} {xs : Array Value} {v : Value} (h : L[i]? = some (b, g, t, xs)) (hv : xs[j]? = some v) (hx : a.eval x = .pointer (some ⟨g, j, none⟩)) (k : wpList Tryz.prog ops Q rest (a.put dst v) w) : wpList Tryz.prog ops Q (⟨dst, .load 3 x, ty, pos, after, none⟩ :: rest) a w := wl_loadA 3 hx (ld3 (H.cell i j h hv)) k
theorem wl_ld4 (i j : Nat) (H : St S w0 w L) {b : Bool} {g : Nat} {t : TypeId} {xs : Array Value} {v : Value} (h : L[i]? = some (b, g, t, xs)) (hv : xs[j]? = some v) (hx : a.eval x = .pointer (some ⟨g, j, none⟩)) (k : wpList Tryz.prog ops Q rest (a.put dst v) w) : wpList Tryz.prog ops Q (⟨dst, .load 4 x, ty, pos, after, none⟩ :: rest) a w := wl_loadA 4 hx (ld4 (H.cell i j h hv)) k
theorem wl_ld9 (i j : Nat) (H : St S w0 w L) {b : Bool} {g : Nat} {t : TypeId} {xs : Array Value} {v : Value} (h : L[i]? = some (b, g, t, xs)) (hv : xs[j]? = some v) (hx : a.eval x = .pointer (some ⟨g, j, none⟩)) (k : wpList Tryz.prog ops Q rest (a.put dst v) w) : wpList Tryz.prog ops Q (⟨dst, .load 9 x, ty, pos, after, none⟩ :: rest) a w := wl_loadA 9 hx (ld9 (H.cell i j h hv)) k
theorem wl_ld26 (i j : Nat) (H : St S w0 w L) {b : Bool} {g : Nat} {t : TypeId} {xs : Array Value} {v : Value} (h : L[i]? = some (b, g, t, xs)) (hv : xs[j]? = some v) (hx : a.eval x = .pointer (some ⟨g, j, none⟩)) (k : wpList Tryz.prog ops Q rest (a.put dst v) w) : wpList Tryz.prog ops Q (⟨dst, .load 25 x, ty, pos, after, none⟩ :: rest) a w := wl_loadA 25 hx (ld26 (H.cell i j h hv)) k
theorem wl_ld59 (i j : Nat) (H : St S w0 w L) {b : Bool} {g : Nat} {t : TypeId} {xs : Array Value} {v : Value} (h : L[i]? = some (b, g, t, xs)) (hv : xs[j]? = some v) (hx : a.eval x = .pointer (some ⟨g, j, none⟩)) (k : wpList Tryz.prog ops Q rest (a.put dst v) w) : wpList Tryz.prog ops Q (⟨dst, .load 160 x, ty, pos, after, none⟩ :: rest) a w := wl_loadA 160 hx (ld59 (H.cell i j h hv)) k
theorem wl_ld70 (i j : Nat) (H : St S w0 w L) {b : Bool} {g : Nat} {t : TypeId} {xs : Array Value} {v : Value} (h : L[i]? = some (b, g, t, xs)) (hv : xs[j]? = some v) (hx : a.eval x = .pointer (some ⟨g, j, none⟩)) (k : wpList Tryz.prog ops Q rest (a.put dst v) w) : wpList Tryz.prog ops Q (⟨dst, .load 176 x, ty, pos, after, none⟩ :: rest) a w := wl_loadA 176 hx (ld70 (H.cell i j h hv)) k
/-- A number, or a truth, is stored into a box of one cell. -/
theorem wl_st3 (i : Nat) (H : St S w0 w L) {g : Nat} {u : Value} {v : Int} (h : L[i]? = some (true, g, 3, #[u])) (hx : a.eval x = .pointer (some ⟨g, 0, none⟩)) (hy : a.eval y = .int .i64 v)
    (k : ∀ w', St S w0 w' (L.set i (true, g, 3, #[.int .i64 v])) → wpList Tryz.prog ops Q rest a w') : wpList Tryz.prog ops Q (⟨none, .store 3 x y, ty, pos, after, none⟩ :: rest) a w :=
  wl_store1 i 0 3 H h hx hy (by simp) one3 rfl k
theorem wl_st4 (i : Nat) (H : St S w0 w L) {g : Nat} {u : Value} {v : Bool} (h : L[i]? = some (true, g, 4, #[u])) (hx : a.eval x = .pointer (some ⟨g, 0, none⟩)) (hy : a.eval y = .bool v)
    (k : ∀ w', St S w0 w' (L.set i (true, g, 4, #[.bool v])) → wpList Tryz.prog ops Q rest a w') : wpList Tryz.prog ops Q (⟨none, .store 4 x y, ty, pos, after, none⟩ :: rest) a w :=
  wl_store1 i 0 4 H h hx hy (by simp) one4 rfl k
/-- From here on: what may be written are the boxes. -/
theorem St.rebase (H : St S w0 w L) (S' : Nat → Prop) (h : ∀ x ∈ L, x.1 = true → S' x.2.1) : St S' w w L := ⟨But.refl _ _, H.all, fun x hx hr _ => h x hx hr, H.nd⟩
theorem St.grown (H : St S w0 w L) {row : Option Nat} (hg : w.grownBy w' row) (hr : ∀ k, row = some k → (∀ x ∈ L, x.2.1 ≠ k) ∧ (k < w0.heap.size → S k)) : St S w0 w' L :=
  ⟨H.but.grown hg (fun k hk => (hr k hk).2), fun x hx => by
    rw [hg.block _ (H.lt hx) (fun e => (hr _ e.symm).1 x hx rfl)]; exact H.all x hx, H.ok, H.nd⟩
end
/-- A row of patterns of the call's own: v has the patterns f. -/
def Rw (w : World) (base : Nat) (v : Value) (f : Fo) : Prop := ∃ xs, w.ownsRow base 27 8 v f.len xs ∧ Kd w (fun b => base ≤ b ∧ v.ownBlock ≠ some b) f xs
theorem Rw.start (w : World) (base : Nat) : Rw w base (.slice none 0 0) .nil := ⟨[], ⟨rfl, .inl ⟨rfl, rfl⟩⟩, rfl⟩
theorem Rw.kept {w w' : World} {base : Nat} {v : Value} {f : Fo} (h : Rw w base v f) (hb : ∀ b, base ≤ b → b < w.heap.size → w'.heap[b]? = w.heap[b]?) : Rw w' base v f := by
  obtain ⟨xs, o, k⟩ := h
  exact ⟨xs, owns8_of_block o (fun b hk => hb b (owns8_lt o hk).1 (owns8_lt o hk).2), k.kept (fun b hP hl => hb b hP.1 hl)⟩
theorem Rw.lt {w : World} {base : Nat} {v : Value} {f : Fo} (h : Rw w base v f) {k : Nat} (hk : v.ownBlock = some k) : base ≤ k ∧ k < w.heap.size := by
  obtain ⟨xs, o, _⟩ := h
  exact owns8_lt o hk
theorem reA_one {k : Int} {s : S4} {v : Value} {mn mx : Int} (hv : v.oneCell' = true) : ∀ u ∈ (reA k s v mn mx).toList, u.oneCell' = true := fun u hu => by
  have h1 : ∀ k n, (Value.int k n).oneCell' = true := fun _ _ => rfl
  simp only [reA, List.mem_cons, List.not_mem_nil, or_false] at hu
  rcases hu with rfl | rfl | rfl | rfl | rfl | rfl | rfl | rfl <;> first | exact h1 _ _ | exact hv
theorem run_bs26 (k : Int) (s : S4) (v : Value) (mn mx : Int) (w : World) : (Instr.buildSlice 25 1 #[(0, reV k s v mn mx)]).run Tryz.prog w = .ok (.slice (some ⟨w.heap.size, 0, none⟩) 1 1) (w.alloc (.cells (reA k s v mn mx) 27)) := by kernel_rfl
section
variable {S : Nat → Prop} {w0 w w' : World} {L : List Ent} {ops : Array Oper} {rest : List Oper} {a : Act} {Q : Exit → Act → World → Prop} {x y : Operand} {ty ty2 : TypeId} {pos pos2 : String} {after after2 : Array Edge}
theorem at_snoc {d1 d2 : Nat} {s x : Operand} (h : wpList Tryz.prog ops Q (⟨some d1, .buildSlice 25 1 #[(0, x)], ty, pos, after, none⟩ :: ⟨some d2, .call { callee := .builtin .append, args := #[s, .tmp d1], argTypes := #[25, 25] }, ty2, pos2, after2, none⟩ :: rest) a w) :
    wpList Tryz.prog ops Q (⟨some d1, .buildSlice 25 1 #[(0, x)], ty, pos, after, none⟩ :: ⟨some d2, .call { callee := .builtin .append, args := #[s, .tmp d1], argTypes := #[25, 25] }, ty2, pos2, after2, none⟩ :: rest) a w := h
/-- A pattern is appended to a row of one's own. -/
theorem wl_snoc {d1 d2 : Nat} {s : Operand} (H : St S w0 w L) {base m : Nat} {v z : Value} {f : Fo} {t : Tr} (R : Rw w base v f) (T : TrV w (fun b => m ≤ b) z t) (hs : ∀ u, (a.put (some d1) u).eval s = v) (ht : ∀ u, (a.put (some d1) u).eval (.tmp d1) = u) (hx : a.eval x = z)
    (hm : ∀ k, v.ownBlock = some k → k < m) (hbm : base ≤ m) (hmw : m ≤ w.heap.size) (hf : f.len ≤ 1000000) (hL : ∀ e ∈ L, e.2.1 < base) (h0 : w0.heap.size ≤ base)
    (k : ∀ u v2 w2, St S w0 w2 L → Rw w2 base v2 (f.snoc t) → w.heap.size ≤ w2.heap.size → wpList Tryz.prog ops Q rest ((a.put (some d1) u).put (some d2) v2) w2) :
    wpList Tryz.prog ops Q (⟨some d1, .buildSlice 25 1 #[(0, x)], ty, pos, after, none⟩ :: ⟨some d2, .call { callee := .builtin .append, args := #[s, .tmp d1], argTypes := #[25, 25] }, ty2, pos2, after2, none⟩ :: rest) a w := by
  obtain ⟨i0, hi, hz0, hz1, hz2⟩ := info28
  obtain ⟨u, zs, rfl, o, p, kd⟩ := T
  obtain ⟨xs, ro, rk⟩ := R
  obtain ⟨ua, uc, hu, _, _⟩ := owns8_val o
  have hu1 : u.oneCell' = true := by rw [hu]; rfl
  refine wpList_plain rfl fun K hK => ?_
  unfold Oper.wp execOp
  simp only [List.map_toArray, List.map_cons, List.map_nil, hx, Sem.run_bind, run_bs26, Result.andThen_ok, Sem.run_pure]
  refine hK _ _ ?_
  generalize hA : reA t.1.k t.1.s u t.1.mn t.1.mx = A at *
  have hAl : A.toList.length = 8 := by rw [← hA]; rfl
  have hold : ∀ b, b < w.heap.size → (w.alloc (.cells A 27)).heap[b]? = w.heap[b]? := fun b hb => Below.heap_alloc _ _ _ hb
  refine wpList_append_lies (P := Tryz.prog) (w := w.alloc (.cells A 27)) rfl s (.tmp d1) 25 rfl base 27 i0 (reV 0 noSet (.slice none 0 0) 0 0) 8 80 Tryz.underlying25 hi hz0 hz1 hz2 rfl (by decide) v f.len xs (hs _) (owns8_of_block ro (fun b hb => hold b (owns8_lt ro hb).2)) ⟨w.heap.size, 0, none⟩ 1 1 A.toList (ht _) (by omega) ?_ (by rw [← hA]; exact reA_one hu1) (by omega) (by unfold maxLen; omega) (by omega) (by simp; omega) (w.heap.size + 1) (by simp) ?_
  · intro j v' hj
    rw [add_plain, Nat.zero_add, cell_of_row _ _ _ _ _ _ (heap_alloc_new w _)]
    simpa using hj
  · intro g cap w2 hown hg hat hlt
    have H1 := (H.alloc 27 A).tail
    have hsz : w.heap.size ≤ w2.heap.size := by have := hg.size; simp at this; omega
    refine k _ _ w2 (H1.grown hg (fun j hj => ⟨fun e he => ?_, fun hl => ?_⟩)) ⟨xs ++ A.toList, by rw [Fo.len_snoc]; exact hown, ?_⟩ hsz
    · have := hL e he
      have := owns8_lt ro hj
      omega
    · have := owns8_lt ro hj
      omega
    · have keep : ∀ b, b < w.heap.size → v.ownBlock ≠ some b → w2.heap[b]? = w.heap[b]? := fun b hb hn => by
        rw [hg.block b (by simp; omega) (fun e => hn e.symm), hold b hb]
      have ne : ∀ b, b < w.heap.size → v.ownBlock ≠ some b → (Value.slice (some ⟨g, 0, none⟩) (f.len + 1) cap).ownBlock ≠ some b := fun b hb hn e => by
        have e2 : g = b := by simpa [Value.ownBlock] using e
        rcases hat with h | h
        · exact hn (by rw [h, e2])
        · omega
      have far : ∀ b, m ≤ b → v.ownBlock ≠ some b := fun b hb e => by have := hm b e; omega
      have step : ∀ {ff : Fo} {ys : List Value} {PP : Nat → Prop}, Kd w PP ff ys → (∀ b, PP b → base ≤ b ∧ v.ownBlock ≠ some b) → Kd w2 (fun b => base ≤ b ∧ (Value.slice (some ⟨g, 0, none⟩) (f.len + 1) cap).ownBlock ≠ some b) ff ys := fun hk hP =>
        ((hk.mono (P' := fun b => (base ≤ b ∧ (Value.slice (some ⟨g, 0, none⟩) (f.len + 1) cap).ownBlock ≠ some b) ∧ v.ownBlock ≠ some b) (fun b hb hp => ⟨⟨(hP b hp).1, ne b hb (hP b hp).2⟩, (hP b hp).2⟩)).kept (w' := w2) (fun b hp hl => keep b hl hp.2)).mono (fun b _ hp => hp.1)
      have o2 := owns8_of_block (w' := w2) o (fun b hb => keep b (owns8_lt o hb).2 (far b (p b hb)))
      rw [← hA]
      refine Kd.snoc o2 (fun b hb => ⟨by have := p b hb; omega, ne b (owns8_lt o hb).2 (far b (p b hb))⟩) (step kd (fun b hb => ⟨by omega, far b hb⟩)) (step rk (fun b hb => hb))
end
open Go.RowKit
set_option linter.unusedVariables false
set_option linter.unusedSimpArgs false

set_option maxHeartbeats 2000000 in
theorem together_any (k : Int) (f : Fo) (v : Value) (w : World) (P : Nat → Prop) (xs : List Value) (ho : w.ownsRow 0 27 8 v f.len xs) (hp : ∀ b, v.ownBlock = some b → P b) (hk : Kd w P f xs) :
    Calls Tryz.prog 110 #[.int .i64 k, v] w fun e w' => ∃ x, e = .returned x ∧ TrV w' P x (tog k f) ∧ Below w.heap.size w w' := by
  have H := St.start Nope w
  obtain ⟨a, cap, rfl, hc1, hc2⟩ := owns8_val ho
  by_cases h1 : f.len = 1
  · obtain ⟨nd, kids, rfl⟩ : ∃ nd kids, f = .cons nd kids .nil := by
      cases f with
      | nil => simp [Fo.len] at h1
      | cons nd kids r => cases r with
        | nil => exact ⟨nd, kids, rfl⟩
        | cons _ _ _ => simp [Fo.len] at h1
    obtain ⟨v, ys, zs, e, o2, p2, k1, k2⟩ := hk
    have e2 : ys = [] := k2
    subst e2
    have hcell : ∃ b, a = some ⟨b, 0, none⟩ ∧ b < w.heap.size ∧ ∀ j u, (reA nd.k nd.s v nd.mn nd.mx)[j]? = some u → w.cell? ⟨b, 0 + j, none⟩ = some u := by
      rcases ho.2 with ⟨_, h0⟩ | ⟨g, cap', cur, hv, _, hg, _⟩
      · simp [Fo.len] at h0
      · cases hv
        refine ⟨g, rfl, (Array.getElem?_eq_some_iff.1 hg).1, fun j u hj => ?_⟩
        have := ho.cells (g := g) rfl j u (by rw [e]; simpa using hj)
        rw [add_plain] at this
        exact this
    obtain ⟨b, rfl, hb, hcell⟩ := hcell
    obtain ⟨va, vc, hv, _, _⟩ := owns8_val o2
    subst hv
    simp only [Fo.len, Nat.zero_add] at h1 ⊢
    have T : Hid (TrV w P (reV nd.k nd.s (.slice va kids.len vc) nd.mn nd.mx) (nd, kids)) := ⟨_, zs, rfl, o2, p2, k1⟩
    have hl := hide (fun w' (hb' : Below w.heap.size w w') => load28c (w := w') (b := b) (o := 0) (fun j u hj => (hb'.cell (p := ⟨b, 0 + j, none⟩) hb).trans (hcell j u hj)))
    clear hcell ho o2 p2 k1 k2 e hp
    go_enter Tryz.func110, Tryz.ntmps110
    go_wp2_with (first | (with_reducible refine at_alloc 27 ?_; refine wl_alloc28 H ?_; clear H; intro g w' H q1 q2) | (with_reducible refine at_load 27 ?_; refine wl_loadA 27 rfl (hl.out _ H.below) ?_) | (with_reducible refine at_store 27 ?_; refine wl_store28 0 H rfl rfl rfl rfl ?_; clear H; intro w' H))
    refine bodyPost_ret (results_cell0 rfl _ _ _ _ rfl (load28 (H.get 0 rfl))) rfl ?_
    refine ⟨_, rfl, ?_, H.below⟩
    exact T.out.kept (fun b' hP hb' => H.below.block b' hb')
  · have e : Hid (tog k f = (⟨k, noSet, 0, 0⟩, f)) := by
      show tog k f = _
      cases f with
      | nil => rfl
      | cons nd kids r => cases r with
        | nil => simp [Fo.len] at h1
        | cons _ _ _ => rfl
    have h2 : ((f.len : Int) == 1) = false := beq_eq_false_iff_ne.2 (by omega)
    have T : Hid (TrV w P (reV k noSet (.slice a f.len cap) 0 0) (⟨k, noSet, 0, 0⟩, f)) := ⟨_, xs, rfl, ho, hp, hk⟩
    clear ho hp hk
    replace h1 := hide h1
    go_enter Tryz.func110, Tryz.ntmps110
    go_wp2_with (first | (with_reducible refine at_alloc 27 ?_; refine wl_alloc28 H ?_; clear H; intro g w' H q1 q2) | (with_reducible refine at_store 27 ?_; refine wl_store28 0 (n' := k) (s' := noSet) (l' := .slice a f.len cap) (mn' := 0) (mx' := 0) H rfl rfl rfl rfl ?_; clear H; intro w' H))
    refine bodyPost_ret (results_cell0 rfl _ _ _ _ rfl (load28 (H.get 0 rfl))) rfl ?_
    refine ⟨_, rfl, ?_, H.below⟩
    rw [e.out]
    exact T.out.kept (fun b' hP hb' => H.below.block b' hb')

/-- The closures of a parser whose boxes lie from n on. -/
def brF (n : Nat) : Value := .func (.func 102) #[] #[.pointer (some ⟨n + 2, 0, none⟩), .pointer (some ⟨n + 3, 0, none⟩), .pointer (some ⟨n, 0, none⟩), .pointer (some ⟨n + 1, 0, none⟩), .pointer (some ⟨n + 4, 0, none⟩)]
def atF (n : Nat) : Value := .func (.func 105) #[] #[.pointer (some ⟨n, 0, none⟩), .pointer (some ⟨n + 1, 0, none⟩), .pointer (some ⟨n + 5, 0, none⟩), .pointer (some ⟨n + 3, 0, none⟩)]
def piF (n : Nat) : Value := .func (.func 107) #[] #[.pointer (some ⟨n + 6, 0, none⟩), .pointer (some ⟨n + 3, 0, none⟩), .pointer (some ⟨n, 0, none⟩), .pointer (some ⟨n + 1, 0, none⟩)]
def seF (n : Nat) : Value := .func (.func 109) #[] #[.pointer (some ⟨n + 3, 0, none⟩), .pointer (some ⟨n + 1, 0, none⟩), .pointer (some ⟨n, 0, none⟩), .pointer (some ⟨n + 7, 0, none⟩)]
def alF (n : Nat) : Value := .func (.func 111) #[] #[.pointer (some ⟨n + 8, 0, none⟩), .pointer (some ⟨n + 3, 0, none⟩), .pointer (some ⟨n, 0, none⟩), .pointer (some ⟨n + 1, 0, none⟩)]
/-- The boxes of a parser: its place, how many brackets are open, whether it is right; its text, its closures. -/
def env (n : Nat) (s : ByteArray) (a : Nat) (o : Int) (r : Bool) : List Ent :=
  [(true, n + 1, 3, #[.int .i64 (a : Int)]), (true, n + 2, 3, #[.int .i64 o]), (true, n + 3, 4, #[.bool r]), (false, n, 9, #[.string s]),
   (false, n + 4, 160, #[alF n]), (false, n + 5, 160, #[brF n]), (false, n + 6, 160, #[atF n]), (false, n + 7, 160, #[piF n]), (false, n + 8, 160, #[seF n])]
def Ev (w : World) (n : Nat) (s : ByteArray) (a : Nat) (o : Int) (r : Bool) : Prop := ∀ x ∈ env n s a o r, w.heap[x.2.1]? = some (.cells x.2.2.2 x.2.2.1 (0, 0))
def S3 (n : Nat) : Nat → Prop := fun k => k = n + 1 ∨ k = n + 2 ∨ k = n + 3
theorem env_nd (n : Nat) (s : ByteArray) (a : Nat) (o : Int) (r : Bool) : ((env n s a o r).map (·.2.1)).Nodup := by
  simp [env, List.nodup_cons]
  try omega
theorem Ev.st {w : World} {n : Nat} {s : ByteArray} {a : Nat} {o : Int} {r : Bool} (h : Ev w n s a o r) : St (S3 n) w w (env n s a o r) :=
  ⟨But.refl _ _, h, fun x hx hr _ => by
    simp only [env, List.mem_cons, List.not_mem_nil, or_false] at hx
    rcases hx with rfl | rfl | rfl | rfl | rfl | rfl | rfl | rfl | rfl <;> simp [S3] at hr ⊢, env_nd n s a o r⟩
theorem Ev.lt {w : World} {n : Nat} {s : ByteArray} {a : Nat} {o : Int} {r : Bool} (h : Ev w n s a o r) : n + 8 < w.heap.size := (Array.getElem?_eq_some_iff.1 (h (false, n + 8, 160, #[seF n]) (by simp [env]))).1
/-- Behind a call of a closure: the parser's boxes as they are now, the other boxes as they were. -/
theorem St.closure {S : Nat → Prop} {w0 w w' : World} {n : Nat} {s : ByteArray} {a a' : Nat} {o o' : Int} {r r' : Bool} {M : List Ent} (H : St S w0 w (M ++ env n s a o r)) (hb : But (S3 n) w w') (hS : ∀ i, i < w0.heap.size → S3 n i → S i) (hE : Ev w' n s a' o' r') : St S w0 w' (M ++ env n s a' o' r') := by
  refine H.callS hb hS (by simp [env]) (fun x hx => ?_)
  rcases List.mem_append.1 hx with h | h
  · refine .inl ⟨List.mem_append_left _ h, fun hT => ?_⟩
    have hnd := H.nd
    rw [List.map_append, List.nodup_append] at hnd
    have h1 : x.2.1 ∈ M.map (·.2.1) := List.mem_map.2 ⟨x, h, rfl⟩
    have h2 : x.2.1 ∈ (env n s a o r).map (·.2.1) := by
      rcases hT with e | e | e <;> rw [e] <;> simp [env]
    exact hnd.2.2 _ h1 _ h2 rfl
  · exact .inr (hE x h)
theorem St.ev {S : Nat → Prop} {w0 w : World} {n : Nat} {s : ByteArray} {a : Nat} {o : Int} {r : Bool} {M : List Ent} (H : St S w0 w (M ++ env n s a o r)) : Ev w n s a o r := fun x hx => H.all x (List.mem_append_right _ hx)
/-- What came out agrees with what is in the boxes. -/
def Agree (res : Out) (t : Tr) (a : Nat) (o' : Int) (r : Bool) (o : Int) : Prop := match res with
  | .error p => r = false ∧ a = p
  | .ok (t', d) => r = true ∧ a = d ∧ t = t' ∧ o' = o
/-- How a closure ends. -/
def Post (n : Nat) (s : ByteArray) (o : Int) (w : World) (res : Out) (e : Ending) (w' : World) : Prop :=
  ∃ x t a' o' r', e = .returned x ∧ TrV w' (fun b => w.heap.size ≤ b) x t ∧ Ev w' n s a' o' r' ∧ But (S3 n) w w' ∧ Agree res t a' o' r' o
theorem TrV.leafV (w : World) (P : Nat → Prop) (x : S4) : TrV w P (reV 1 x (.slice none 0 0) 0 0) (leaf x) := ⟨_, [], rfl, ⟨rfl, .inl ⟨rfl, rfl⟩⟩, fun b hb => (by cases hb), rfl⟩
theorem TrV.val {w : World} {P : Nat → Prop} {x : Value} {t : Tr} (h : TrV w P x t) : ∃ a n c, x = reV t.1.k t.1.s (.slice a n c) t.1.mn t.1.mx := by
  obtain ⟨v, zs, e, o, p, k⟩ := h
  obtain ⟨a, c, rfl, _, _⟩ := owns8_val o
  exact ⟨a, _, c, e⟩
theorem tab_st {w0 w : World} {L : List Ent} {n : Nat} (h : Tab w0) (H : St (S3 n) w0 w L) (hn : 0 < n) : Tab w := h.st H (by intro k hk; simp [S3]; omega)
/-- From here on the parser's boxes may be written, and those in Q. -/
theorem St.rebaseE {S : Nat → Prop} {w0 w : World} {n : Nat} {s : ByteArray} {a : Nat} {o : Int} {r : Bool} {M : List Ent} (H : St S w0 w (M ++ env n s a o r)) (Q : Nat → Prop) (hQ : ∀ x ∈ M, Q x.2.1) : St (fun k => S3 n k ∨ Q k) w w (M ++ env n s a o r) :=
  H.rebase _ (fun x hx hr => by
    rcases List.mem_append.1 hx with h | h
    · exact .inr (hQ x h)
    · refine .inl ?_
      simp only [env, List.mem_cons, List.not_mem_nil, or_false] at h
      rcases h with rfl | rfl | rfl | rfl | rfl | rfl | rfl | rfl | rfl <;> simp [S3] at hr ⊢)
/-- What is asked of the closure for brackets. -/
def BrOk (n : Nat) (s : ByteArray) (o : Int) (br : Nat → Out) : Prop := ∀ (w : World) (a : Nat), Ev w n s a o true → Tab w → bt s a = 40 →
  Calls Tryz.prog 102 #[.pointer (some ⟨n + 2, 0, none⟩), .pointer (some ⟨n + 3, 0, none⟩), .pointer (some ⟨n, 0, none⟩), .pointer (some ⟨n + 1, 0, none⟩), .pointer (some ⟨n + 4, 0, none⟩)] w (Post n s o w (br a))
set_option maxHeartbeats 4000000 in
theorem atom_any (n : Nat) (hn : 0 < n) (s : ByteArray) (hs : s.size ≤ 256) (o : Int) (br : Nat → Out) (hbr : BrOk n s o br) (w : World) (hT : Tab w) (a : Nat) (ha : a ≤ s.size) (hE : Ev w n s a o true) :
    Calls Tryz.prog 105 #[.pointer (some ⟨n, 0, none⟩), .pointer (some ⟨n + 1, 0, none⟩), .pointer (some ⟨n + 5, 0, none⟩), .pointer (some ⟨n + 3, 0, none⟩)] w (Post n s o w (atomM br s a)) := by
  have H : St (S3 n) w w (env n s a o true) := hE.st
  unfold atomM
  generalize hc : bt s a = c
  by_cases h40 : c = 40
  · subst h40
    rw [if_pos rfl]
    replace hc := hide hc
    go_enter Tryz.func105, Tryz.ntmps105
    go_wp2_with (first | (with_reducible refine at_alloc 27 ?_; refine wl_alloc28 H ?_; clear H; intro g w' H q1 q2) | (with_reducible refine at_load 9 ?_; first | (refine wl_ld9 4 0 H rfl rfl rfl ?_)) | (with_reducible refine at_load 3 ?_; first | (refine wl_ld3 1 0 H rfl rfl rfl ?_)) | (with_reducible refine at_load 4 ?_; first | (refine wl_ld4 3 0 H rfl rfl rfl ?_)) | (with_reducible refine at_load 160 ?_; first | (refine wl_ld59 6 0 H rfl rfl rfl ?_; simp only [brF, atF, piF, seF, alF])))
    refine (byteAt_i s a _ rfl).mono ?_
    rintro e w1 ⟨rfl, rfl⟩
    rw [hc.out]
    go_wp2_with (first | (with_reducible refine at_load 9 ?_; first | (refine wl_ld9 4 0 H rfl rfl rfl ?_)) | (with_reducible refine at_load 3 ?_; first | (refine wl_ld3 1 0 H rfl rfl rfl ?_)) | (with_reducible refine at_load 4 ?_; first | (refine wl_ld4 3 0 H rfl rfl rfl ?_)) | (with_reducible refine at_load 160 ?_; first | (refine wl_ld59 6 0 H rfl rfl rfl ?_; simp only [brF, atF, piF, seF, alF])))
    have P1 := hbr w1 a (St.ev (M := [_]) H) (tab_st hT H hn) hc.out
    have hg := H.lti 0 rfl
    have hge := q1
    refine P1.mono ?_
    rintro e w2 ⟨x, t, a', o', r', rfl, T, E2, B2, A2⟩
    have W2 := St.closure (M := [_]) H B2 (fun i _ h => h) E2
    have hlt := E2.lt
    have hE8 := (St.ev (M := [_]) H).lt
    have hs1 := H.but.size
    clear H
    have H := St.rebaseE (M := [_]) W2 (fun k => k = g) (fun x hx => by simp only [List.mem_cons, List.not_mem_nil, or_false] at hx; subst hx; rfl)
    obtain ⟨va, vn, vc, hx⟩ := T.val
    subst hx
    go_wp2_with (first | (with_reducible refine at_store 27 ?_; refine wl_store28 0 H rfl rfl rfl rfl ?_; clear H; intro w' H))
    refine bodyPost_ret (results_cell0 rfl _ _ _ _ rfl (load28 (H.get 0 rfl))) rfl ?_
    refine ⟨_, t, a', o', r', rfl, ?_, St.ev (M := [_]) H, W2.but.trans H.but (fun i hi h => by rcases h with h | h; exact h; omega), A2⟩
    exact (T.kept (fun b hP hb => H.but.block b hb (fun h => by rcases h with h | h; simp only [S3] at h; omega; omega))).mono (fun b _ hP => by omega)
  · rw [if_neg h40]
    have n40 : (c == 40) = false := beq_eq_false_iff_ne.2 h40
    replace h40 := hide h40
    replace hc := hide hc
    have PS := hide (fun w hT z hz => set_any s hs a ha w hT (z := z) hz)
    generalize setR s a = r0 at PS ⊢
    obtain ⟨x, d, ok⟩ := r0
    simp only at PS ⊢
    generalize hres : (if ok = true then Except.ok (leaf x, d) else Except.error d : Out) = res
    replace hres := hide hres
    go_enter Tryz.func105, Tryz.ntmps105
    go_wp2_with (first | (with_reducible refine at_alloc 27 ?_; refine wl_alloc28 H ?_; clear H; intro g w' H q1 q2) | (with_reducible refine at_load 9 ?_; first | (refine wl_ld9 4 0 H rfl rfl rfl ?_)) | (with_reducible refine at_load 3 ?_; first | (refine wl_ld3 1 0 H rfl rfl rfl ?_)) | (with_reducible refine at_load 4 ?_; first | (refine wl_ld4 3 0 H rfl rfl rfl ?_)) | (with_reducible refine at_load 160 ?_; first | (refine wl_ld59 6 0 H rfl rfl rfl ?_; simp only [brF, atF, piF, seF, alF])) | (with_reducible refine at_store 3 ?_; first | (refine wl_setKind 0 H rfl rfl rfl ?_; clear H; intro w' H) | (refine wl_st3 1 H rfl rfl rfl ?_; clear H; intro w' H)) | (with_reducible refine at_store 4 ?_; refine wl_st4 3 H rfl rfl rfl ?_; clear H; intro w' H) | (with_reducible refine at_store 24 ?_; refine wl_setSet 0 H rfl rfl rfl ?_; clear H; intro w' H) | (with_reducible refine at_load 27 ?_; refine wl_load28 0 H rfl rfl ?_) | (with_reducible refine at_store 27 ?_; refine wl_store28 0 H rfl rfl rfl rfl ?_; clear H; intro w' H))
    refine (byteAt_i s a _ rfl).mono ?_
    rintro e w1 ⟨rfl, rfl⟩
    rw [hc.out]
    go_wp2_with (first | (with_reducible refine at_alloc 27 ?_; refine wl_alloc28 H ?_; clear H; intro g w' H q1 q2) | (with_reducible refine at_load 9 ?_; first | (refine wl_ld9 4 0 H rfl rfl rfl ?_)) | (with_reducible refine at_load 3 ?_; first | (refine wl_ld3 1 0 H rfl rfl rfl ?_)) | (with_reducible refine at_load 4 ?_; first | (refine wl_ld4 3 0 H rfl rfl rfl ?_)) | (with_reducible refine at_load 160 ?_; first | (refine wl_ld59 6 0 H rfl rfl rfl ?_; simp only [brF, atF, piF, seF, alF])) | (with_reducible refine at_store 3 ?_; first | (refine wl_setKind 0 H rfl rfl rfl ?_; clear H; intro w' H) | (refine wl_st3 1 H rfl rfl rfl ?_; clear H; intro w' H)) | (with_reducible refine at_store 4 ?_; refine wl_st4 3 H rfl rfl rfl ?_; clear H; intro w' H) | (with_reducible refine at_store 24 ?_; refine wl_setSet 0 H rfl rfl rfl ?_; clear H; intro w' H) | (with_reducible refine at_load 27 ?_; refine wl_load28 0 H rfl rfl ?_) | (with_reducible refine at_store 27 ?_; refine wl_store28 0 H rfl rfl rfl rfl ?_; clear H; intro w' H))
    refine (PS.out _ (tab_st hT H hn) _ rfl).mono ?_
    rintro e w2 ⟨rfl, b2⟩
    replace H := H.call b2 (Nat.le_refl _)
    go_wp2_with (first | (with_reducible refine at_alloc 27 ?_; refine wl_alloc28 H ?_; clear H; intro g w' H q1 q2) | (with_reducible refine at_load 9 ?_; first | (refine wl_ld9 4 0 H rfl rfl rfl ?_)) | (with_reducible refine at_load 3 ?_; first | (refine wl_ld3 1 0 H rfl rfl rfl ?_)) | (with_reducible refine at_load 4 ?_; first | (refine wl_ld4 3 0 H rfl rfl rfl ?_)) | (with_reducible refine at_load 160 ?_; first | (refine wl_ld59 6 0 H rfl rfl rfl ?_; simp only [brF, atF, piF, seF, alF])) | (with_reducible refine at_store 3 ?_; first | (refine wl_setKind 0 H rfl rfl rfl ?_; clear H; intro w' H) | (refine wl_st3 1 H rfl rfl rfl ?_; clear H; intro w' H)) | (with_reducible refine at_store 4 ?_; refine wl_st4 3 H rfl rfl rfl ?_; clear H; intro w' H) | (with_reducible refine at_store 24 ?_; refine wl_setSet 0 H rfl rfl rfl ?_; clear H; intro w' H) | (with_reducible refine at_load 27 ?_; refine wl_load28 0 H rfl rfl ?_) | (with_reducible refine at_store 27 ?_; refine wl_store28 0 H rfl rfl rfl rfl ?_; clear H; intro w' H))
    refine bodyPost_ret (results_cell0 rfl _ _ _ _ rfl (load28 (H.get 0 rfl))) rfl ?_
    refine ⟨_, leaf x, d, o, ok, rfl, TrV.leafV _ _ x, St.ev (M := [_]) H, H.but, ?_⟩
    rw [← hres.out]
    cases ok with
    | true => exact ⟨rfl, rfl, rfl, rfl⟩
    | false => exact ⟨rfl, rfl⟩
open Go.RowKit
set_option linter.unusedVariables false
set_option linter.unusedSimpArgs false

/-- How many, and how deep. -/
def Fo.sz : Fo → Nat
  | .nil => 0
  | .cons _ k r => 1 + k.sz + r.sz
def Fo.dp : Fo → Nat
  | .nil => 0
  | .cons _ k r => max (1 + k.dp) r.dp
/-- May one be, with so many members? -/
def fitN (n : Nd) (len : Nat) : Prop := (n.k ≠ 1 → n.s = noSet) ∧ (n.k = 4 → len = 1 ∧ arT n.mn n.mx = true) ∧ (n.k ≠ 4 → n.mn = 0 ∧ n.mx = 0) ∧ (n.k = 1 ∧ len = 0 ∨ n.k = 2 ∨ n.k = 3 ∨ n.k = 4)
def Fo.fit : Fo → Prop
  | .nil => True
  | .cons n k r => fitN n k.len ∧ k.fit ∧ r.fit
def szT (t : Tr) : Nat := 1 + t.2.sz
def dpT (t : Tr) : Nat := 1 + t.2.dp
def fitT (t : Tr) : Prop := fitN t.1 t.2.len ∧ t.2.fit
theorem Fo.sz_snoc (f : Fo) (t : Tr) : (f.snoc t).sz = f.sz + szT t := by
  induction f with
  | nil => simp [Fo.snoc, Fo.sz, szT]
  | cons n k r _ ih => simp [Fo.snoc, Fo.sz, ih]; omega
theorem Fo.dp_snoc (f : Fo) (t : Tr) : (f.snoc t).dp = max f.dp (dpT t) := by
  induction f with
  | nil => simp [Fo.snoc, Fo.dp, dpT]
  | cons n k r _ ih => simp [Fo.snoc, Fo.dp, ih] <;> omega
theorem Fo.fit_snoc {f : Fo} {t : Tr} (hf : f.fit) (ht : fitT t) : (f.snoc t).fit := by
  induction f with
  | nil => exact ⟨ht.1, ht.2, trivial⟩
  | cons n k r _ ih => exact ⟨hf.1, hf.2.1, ih hf.2.2⟩
theorem tog_cases (k : Int) (f : Fo) : (∃ n kids, f = .cons n kids .nil ∧ tog k f = (n, kids)) ∨ (f.len ≠ 1 ∧ tog k f = (⟨k, noSet, 0, 0⟩, f)) := by
  cases f with
  | nil => exact .inr ⟨by simp [Fo.len], rfl⟩
  | cons n kids r => cases r with
    | nil => exact .inl ⟨n, kids, rfl, rfl⟩
    | cons _ _ _ => exact .inr ⟨by simp [Fo.len], rfl⟩
/-- What comes out of pieces, atoms, brackets from a on is good. -/
def GoodP (s : ByteArray) (D a : Nat) (out : Out) : Prop := match out with
  | .error p => p ≤ s.size
  | .ok (t, d) => a < d ∧ d ≤ s.size ∧ fitT t ∧ szT t + 1 ≤ 2 * (d - a) ∧ dpT t ≤ D
/-- What comes out of sequences and alternations from a on is good. -/
def GoodA (s : ByteArray) (D a : Nat) (out : Out) : Prop := match out with
  | .error p => p ≤ s.size
  | .ok (t, d) => a ≤ d ∧ d ≤ s.size ∧ fitT t ∧ szT t ≤ 2 * (d - a) + 1 ∧ dpT t ≤ D
/-- Brackets from a place at which one stands are good. -/
def BrGood (s : ByteArray) (D : Nat) (br : Nat → Out) : Prop := ∀ a, bt s a = 40 → GoodP s D a (br a)
theorem leaf_fit (x : S4) : fitT (leaf x) := ⟨⟨fun h => (h rfl).elim, fun h => (by simp [leaf] at h), fun _ => ⟨rfl, rfl⟩, .inl ⟨rfl, rfl⟩⟩, trivial⟩
theorem atom_good {s : ByteArray} {D : Nat} {br : Nat → Out} (hD : 1 ≤ D) (hb : BrGood s D br) (a : Nat) (ha : a ≤ s.size) : GoodP s D a (atomM br s a) := by
  unfold atomM
  split
  · exact hb a (by assumption)
  · obtain ⟨o1, f1, f2, f3⟩ := set_far s a
    split
    · rename_i h
      have := f3 h
      exact ⟨this.1, this.2, leaf_fit _, by simp [szT, leaf, Fo.sz]; omega, by simp [dpT, leaf, Fo.dp]; omega⟩
    · show _ ≤ _; omega
theorem rep_fit {t : Tr} (h : fitT t) {mn mx : Int} (ht : arT mn mx = true) : fitT (rep t mn mx) :=
  ⟨⟨fun _ => rfl, fun _ => ⟨rfl, ht⟩, fun h => (h rfl).elim, .inr (.inr (.inr rfl))⟩, h.1, h.2, trivial⟩
theorem piece_good {s : ByteArray} {D : Nat} {br : Nat → Out} (hD : 1 ≤ D) (hb : BrGood s D br) (a : Nat) (ha : a ≤ s.size) : GoodP s (D + 1) a (pieceM br s a) := by
  have h1 := atom_good hD hb a ha
  unfold pieceM
  split
  · rename_i p e
    rw [e] at h1
    exact h1
  · rename_i t d e
    rw [e] at h1
    obtain ⟨g1, g2, g3, g4, g5⟩ := h1
    obtain ⟨f1, f2, f3⟩ := times_far s d g2
    split
    · rename_i h
      rcases f3 h with ⟨e1, e2⟩ | ⟨e1, e2, e3⟩
      · rw [if_neg (by rw [e1]; simp)]
        rw [e2]
        exact ⟨g1, g2, g3, g4, by omega⟩
      · rw [if_pos e1]
        refine ⟨by omega, f2, rep_fit g3 e3, ?_, ?_⟩
        · simp only [szT, rep, Fo.sz] at *; omega
        · simp only [dpT, rep, Fo.dp] at *; omega
    · exact f2
theorem seqL_good {s : ByteArray} {D : Nat} {br : Nat → Out} (hD : 1 ≤ D) (hb : BrGood s D br) (a0 : Nat) : ∀ (n : Nat) (f : Fo) (a : Nat), a0 ≤ a → a ≤ s.size → f.fit → f.sz + f.len ≤ 2 * (a - a0) → f.dp ≤ D + 1 →
    match seqL br s n f a with
    | .error p => p ≤ s.size
    | .ok (f', d) => a0 ≤ d ∧ d ≤ s.size ∧ f'.fit ∧ f'.sz + f'.len ≤ 2 * (d - a0) ∧ f'.dp ≤ D + 1
  | 0, f, a, h0, h1, h2, h3, h4 => ⟨h0, h1, h2, h3, h4⟩
  | n + 1, f, a, h0, h1, h2, h3, h4 => by
    unfold seqL
    have hp := piece_good hD hb a h1
    split
    · rename_i hs
      split at hs
      · rename_i hc
        split at hs
        · rename_i p e; rw [e] at hp; cases hs; exact hp
        · rename_i t d e
          rw [e] at hp
          obtain ⟨g1, g2, g3, g4, g5⟩ := hp
          have := seqL_good hD hb a0 n (f.snoc t) d (by omega) g2 (Fo.fit_snoc h2 g3) (by rw [Fo.sz_snoc, Fo.len_snoc]; omega) (by rw [Fo.dp_snoc]; omega)
          rw [hs] at this
          exact this
      · cases hs
    · rename_i hs
      split at hs
      · split at hs
        · cases hs
        · rename_i t d e
          rw [e] at hp
          obtain ⟨g1, g2, g3, g4, g5⟩ := hp
          have := seqL_good hD hb a0 n (f.snoc t) d (by omega) g2 (Fo.fit_snoc h2 g3) (by rw [Fo.sz_snoc, Fo.len_snoc]; omega) (by rw [Fo.dp_snoc]; omega)
          rw [hs] at this
          exact this
      · cases hs; exact ⟨h0, h1, h2, h3, h4⟩
theorem fit_of_one {n : Nd} {k : Fo} (h : (Fo.cons n k .nil).fit) : fitT (n, k) := ⟨h.1, h.2.1⟩
theorem seq_good {s : ByteArray} {D : Nat} {br : Nat → Out} (hD : 1 ≤ D) (hb : BrGood s D br) (a : Nat) (ha : a ≤ s.size) : GoodA s (D + 2) a (seqM br s a) := by
  have h := seqL_good hD hb a (s.size + 1 - a) .nil a (Nat.le_refl _) ha trivial (by simp [Fo.sz, Fo.len]) (by simp [Fo.dp])
  unfold seqM
  split
  · rename_i p e; rw [e] at h; exact h
  · rename_i f d e
    rw [e] at h
    obtain ⟨h1, h2, h3, h4, h5⟩ := h
    rcases tog_cases 2 f with ⟨n, k, rfl, e2⟩ | ⟨hl, e2⟩
    · rw [e2]
      refine ⟨h1, h2, fit_of_one h3, ?_, ?_⟩
      · simp only [szT, Fo.sz, Fo.len] at *; omega
      · simp only [dpT, Fo.dp] at *; omega
    · rw [e2]
      refine ⟨h1, h2, ⟨⟨fun _ => rfl, fun h => (by simp at h), fun _ => ⟨rfl, rfl⟩, .inr (.inl rfl)⟩, h3⟩, ?_, ?_⟩
      · simp only [szT] at *; omega
      · simp only [dpT] at *; omega
theorem altL_good {s : ByteArray} {D : Nat} {br : Nat → Out} (hD : 1 ≤ D) (hb : BrGood s D br) (a0 : Nat) : ∀ (n : Nat) (f : Fo) (a : Nat), a0 ≤ a → a ≤ s.size → f.fit → f.sz + f.len ≤ 2 * (a - a0) + 2 → f.dp ≤ D + 2 →
    match altL br s n f a with
    | .error p => p ≤ s.size
    | .ok (f', d) => a0 ≤ d ∧ d ≤ s.size ∧ f'.fit ∧ f'.sz + f'.len ≤ 2 * (d - a0) + 2 ∧ f'.dp ≤ D + 2
  | 0, f, a, h0, h1, h2, h3, h4 => ⟨h0, h1, h2, h3, h4⟩
  | n + 1, f, a, h0, h1, h2, h3, h4 => by
    unfold altL
    by_cases hc : bt s a = 124
    · have hl := bt_lt (s := s) (k := a) (by omega)
      have hp := seq_good hD hb (a + 1) (by omega)
      simp only [hc, if_true]
      generalize hq : seqM br s (a + 1) = q at hp
      cases q with
      | error p => exact hp
      | ok td =>
        obtain ⟨t, d⟩ := td
        obtain ⟨g1, g2, g3, g4, g5⟩ := hp
        exact altL_good hD hb a0 n (f.snoc t) d (by omega) g2 (Fo.fit_snoc h2 g3) (by rw [Fo.sz_snoc, Fo.len_snoc]; omega) (by rw [Fo.dp_snoc]; omega)
    · simp only [hc, if_false]
      exact ⟨h0, h1, h2, h3, h4⟩
theorem alt_good {s : ByteArray} {D : Nat} {br : Nat → Out} (hD : 1 ≤ D) (hb : BrGood s D br) (a : Nat) (ha : a ≤ s.size) : GoodA s (D + 3) a (altM br s a) := by
  have h := seq_good hD hb a ha
  unfold altM
  split
  · rename_i p e; rw [e] at h; exact h
  · rename_i t d e
    rw [e] at h
    obtain ⟨g1, g2, g3, g4, g5⟩ := h
    have h := altL_good hD hb a (s.size + 1 - d) (Fo.nil.snoc t) d g1 g2 (Fo.fit_snoc trivial g3) (by rw [Fo.sz_snoc, Fo.len_snoc]; simp [Fo.sz, Fo.len]; omega) (by rw [Fo.dp_snoc]; simp [Fo.dp]; omega)
    split
    · rename_i p e2; rw [e2] at h; exact h
    · rename_i f d2 e2
      rw [e2] at h
      obtain ⟨h1, h2, h3, h4, h5⟩ := h
      rcases tog_cases 3 f with ⟨n, k, rfl, e3⟩ | ⟨hl, e3⟩
      · rw [e3]
        refine ⟨h1, h2, fit_of_one h3, ?_, ?_⟩
        · simp only [szT, Fo.sz, Fo.len] at *; omega
        · simp only [dpT, Fo.dp] at *; omega
      · rw [e3]
        refine ⟨h1, h2, ⟨⟨fun _ => rfl, fun h => (by simp at h), fun _ => ⟨rfl, rfl⟩, .inr (.inr (.inl rfl))⟩, h3⟩, ?_, ?_⟩
        · have : f.len ≠ 1 := hl
          cases f with
          | nil => simp only [szT, Fo.sz, Fo.len] at *; omega
          | cons n k r => simp only [szT, Fo.len] at *; omega
        · simp only [dpT] at *; omega
theorem op_far (s : ByteArray) (a : Nat) (h : a < s.size) : a < (opR s a).1 ∧ (opR s a).1 ≤ s.size := by
  unfold opR
  split
  · rename_i h1
    have := bt_lt (s := s) (k := a + 1) (by omega)
    split
    · rename_i h2
      have := bt_lt (s := s) (k := a + 2) (by omega)
      simp; omega
    · simp; omega
  · simp; omega
theorem br_good (s : ByteArray) : ∀ m, BrGood s (3 * m + 1) (brM s m)
  | 0 => fun a ha => by have := bt_lt (s := s) (k := a) (by omega); show a ≤ s.size; omega
  | m + 1 => fun a ha => by
    have hl := bt_lt (s := s) (k := a) (by omega)
    obtain ⟨o1, o2⟩ := op_far s a hl
    have h := alt_good (by omega) (br_good s m) (opR s a).1 o2
    unfold brM
    split
    · split
      · rename_i p e; rw [e] at h; exact h
      · rename_i t d e
        rw [e] at h
        obtain ⟨g1, g2, g3, g4, g5⟩ := h
        split
        · rename_i h41
          have := bt_lt (s := s) (k := d) (by omega)
          exact ⟨by omega, by omega, g3, by omega, by omega⟩
        · exact g2
    · exact o2
/-- What is read may be. -/
theorem parse_good (s : ByteArray) : match parseM s with
    | .error p => p ≤ s.size
    | .ok t => fitT t ∧ szT t ≤ 2 * s.size + 1 ∧ dpT t ≤ 100 := by
  have h := alt_good (by omega) (br_good s 32) 0 (Nat.zero_le _)
  unfold parseM
  generalize altM (brM s 32) s 0 = q at h ⊢
  cases q with
  | error p => exact h
  | ok td =>
    obtain ⟨t, d⟩ := td
    obtain ⟨g1, g2, g3, g4, g5⟩ := h
    by_cases hd : d = s.size
    · simp only [hd, if_true]
      exact ⟨g3, by omega, by omega⟩
    · simp only [hd, if_false]
      exact g2
end Go.Proofs.YtkfdikpnnkbgaaaGreatDoor
