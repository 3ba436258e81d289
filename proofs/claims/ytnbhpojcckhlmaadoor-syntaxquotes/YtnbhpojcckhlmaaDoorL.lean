/-
  Patterns as trees: what the parser answers, as a function; trees in memory.
-/
import Derived.Test.YtnbhpojcckhlmaaDoorK
import Derived.Laws.AppendOwnNone
namespace Go.Proofs.YtnbhpojcckhlmaaDoor
open Go.RowKit
set_option linter.unusedVariables false
set_option linter.unusedSimpArgs false

/-- One of a pattern, without its members. -/
structure Nd where
  k : Int
  s : S4
  mn : Int
  mx : Int
/-- A list of patterns: the first one, its members, the rest. -/
inductive Fo where
  | nil : Fo
  | cons : Nd → Fo → Fo → Fo
/-- A pattern: itself, its members. -/
abbrev Tr := Nd × Fo
def Fo.len : Fo → Nat
  | .nil => 0
  | .cons _ _ r => r.len + 1
def Fo.snoc : Fo → Tr → Fo
  | .nil, t => .cons t.1 t.2 .nil
  | .cons n k r, t => .cons n k (r.snoc t)
theorem Fo.len_snoc (f : Fo) (t : Tr) : (f.snoc t).len = f.len + 1 := by
  induction f with
  | nil => rfl
  | cons n k r _ ih => simp [Fo.snoc, Fo.len, ih]
/-- What comes out: a place where it goes wrong, or a pattern and the place behind it. -/
abbrev Out := Except Nat (Tr × Nat)
def leaf (x : S4) : Tr := (⟨1, x, 0, 0⟩, .nil)
def rep (t : Tr) (mn mx : Int) : Tr := (⟨4, noSet, mn, mx⟩, .cons t.1 t.2 .nil)
def tog (k : Int) : Fo → Tr
  | .cons n kids .nil => (n, kids)
  | f => (⟨k, noSet, 0, 0⟩, f)
def atomM (br : Nat → Out) (s : ByteArray) (a : Nat) : Out :=
  if bt s a = 40 then br a else if (setR s a).2.2 = true then .ok (leaf (setR s a).1, (setR s a).2.1) else .error (setR s a).2.1
def pieceM (br : Nat → Out) (s : ByteArray) (a : Nat) : Out := match atomM br s a with
  | .error p => .error p
  | .ok (t, d) => if (timesR s d).2.2 = true then (if (timesR s d).1.1 = 4 then .ok (rep t (timesR s d).1.2.1 (timesR s d).1.2.2, (timesR s d).2.1) else .ok (t, (timesR s d).2.1)) else .error (timesR s d).2.1
def seqL (br : Nat → Out) (s : ByteArray) : Nat → Fo → Nat → Except Nat (Fo × Nat)
  | 0, f, a => .ok (f, a)
  | n + 1, f, a => if a < s.size ∧ bt s a ≠ 124 ∧ bt s a ≠ 41 then (match pieceM br s a with
      | .error p => .error p
      | .ok (t, d) => seqL br s n (f.snoc t) d) else .ok (f, a)
def seqM (br : Nat → Out) (s : ByteArray) (a : Nat) : Out := match seqL br s (s.size + 1 - a) .nil a with
  | .error p => .error p
  | .ok (f, d) => .ok (tog 2 f, d)
def altL (br : Nat → Out) (s : ByteArray) : Nat → Fo → Nat → Except Nat (Fo × Nat)
  | 0, f, a => .ok (f, a)
  | n + 1, f, a => if bt s a = 124 then (match seqM br s (a + 1) with
      | .error p => .error p
      | .ok (t, d) => altL br s n (f.snoc t) d) else .ok (f, a)
def altM (br : Nat → Out) (s : ByteArray) (a : Nat) : Out := match seqM br s a with
  | .error p => .error p
  | .ok (t, d) => match altL br s (s.size + 1 - d) (Fo.nil.snoc t) d with
    | .error p => .error p
    | .ok (f, d2) => .ok (tog 3 f, d2)
def brM (s : ByteArray) : Nat → Nat → Out
  | 0, a => .error a
  | m + 1, a => if (opR s a).2 = true then (match altM (brM s m) s (opR s a).1 with
      | .error p => .error p
      | .ok (t, d) => if bt s d = 41 then .ok (t, d + 1) else .error d) else .error (opR s a).1
def parseM (s : ByteArray) : Except Nat Tr := match altM (brM s 32) s 0 with
  | .error p => .error p
  | .ok (t, d) => if d = s.size then .ok t else .error d

/-- In w the cells xs are a list of patterns f; the rows of members lie in blocks in P. -/
def Kd (w : World) (P : Nat → Prop) : Fo → List Value → Prop
  | .nil, xs => xs = []
  | .cons n kids rest, xs => ∃ v ys zs, xs = (reA n.k n.s v n.mn n.mx).toList ++ ys ∧ w.ownsRow 0 28 8 v kids.len zs ∧ (∀ b, v.ownBlock = some b → P b) ∧ Kd w P kids zs ∧ Kd w P rest ys
/-- The value x is the pattern t in memory. -/
def TrV (w : World) (P : Nat → Prop) (x : Value) (t : Tr) : Prop :=
  ∃ v zs, x = reV t.1.k t.1.s v t.1.mn t.1.mx ∧ w.ownsRow 0 28 8 v t.2.len zs ∧ (∀ b, v.ownBlock = some b → P b) ∧ Kd w P t.2 zs
theorem owns8_of_block {w w' : World} {base n : Nat} {v : Value} {xs : List Value} (h : w.ownsRow base 28 8 v n xs) (hb : ∀ k, v.ownBlock = some k → w'.heap[k]? = w.heap[k]?) : w'.ownsRow base 28 8 v n xs := by
  refine ⟨h.1, ?_⟩
  rcases h.2 with h1 | ⟨g, cap, cur, rfl, h2, h3, h4⟩
  · exact .inl h1
  · exact .inr ⟨g, cap, cur, rfl, h2, (hb g rfl).trans h3, h4⟩
theorem owns8_mono {w : World} {base base' n : Nat} {v : Value} {xs : List Value} (h : w.ownsRow base 28 8 v n xs) (hb : base' ≤ base) : w.ownsRow base' 28 8 v n xs := by
  refine ⟨h.1, ?_⟩
  rcases h.2 with h1 | ⟨g, cap, cur, rfl, h2, h3⟩
  · exact .inl h1
  · exact .inr ⟨g, cap, cur, rfl, by omega, h3⟩
theorem owns8_lt {w : World} {base n : Nat} {v : Value} {xs : List Value} (h : w.ownsRow base 28 8 v n xs) {k : Nat} (hk : v.ownBlock = some k) : base ≤ k ∧ k < w.heap.size := by
  rcases h.2 with ⟨rfl, _⟩ | ⟨g, cap, cur, rfl, h2, h3, _⟩
  · cases hk
  · cases hk; exact ⟨h2, (Array.getElem?_eq_some_iff.1 h3).1⟩
theorem owns8_val {w : World} {base n : Nat} {v : Value} {xs : List Value} (h : w.ownsRow base 28 8 v n xs) : ∃ a cap, v = .slice a n cap ∧ n ≤ cap ∧ cap ≤ maxLen := by
  rcases h.2 with ⟨rfl, rfl⟩ | ⟨g, cap, cur, rfl, h2, h3, h4, h5, _⟩
  · exact ⟨none, 0, rfl, Nat.le_refl _, Nat.zero_le _⟩
  · exact ⟨some ⟨g, 0, none⟩, cap, rfl, h4, h5⟩
theorem Kd.kept {w w' : World} {P : Nat → Prop} (hb : ∀ b, P b → b < w.heap.size → w'.heap[b]? = w.heap[b]?) : ∀ {f : Fo} {xs : List Value}, Kd w P f xs → Kd w' P f xs
  | .nil, _, h => h
  | .cons n kids rest, xs, ⟨v, ys, zs, e, o, p, k1, k2⟩ => ⟨v, ys, zs, e, owns8_of_block o (fun k hk => hb k (p k hk) (owns8_lt o hk).2), p, Kd.kept hb k1, Kd.kept hb k2⟩
theorem Kd.mono {w : World} {P P' : Nat → Prop} (hp : ∀ b, b < w.heap.size → P b → P' b) : ∀ {f : Fo} {xs : List Value}, Kd w P f xs → Kd w P' f xs
  | .nil, _, h => h
  | .cons n kids rest, xs, ⟨v, ys, zs, e, o, p, k1, k2⟩ => ⟨v, ys, zs, e, o, fun b hb => hp b (owns8_lt o hb).2 (p b hb), Kd.mono hp k1, Kd.mono hp k2⟩
theorem Kd.len {w : World} {P : Nat → Prop} : ∀ {f : Fo} {xs : List Value}, Kd w P f xs → xs.length = f.len * 8
  | .nil, xs, h => by cases h; rfl
  | .cons n kids rest, xs, ⟨v, ys, zs, e, o, p, k1, k2⟩ => by rw [e, List.length_append, Kd.len k2]; simp [reA, Fo.len]; omega
theorem Kd.snoc {w : World} {P : Nat → Prop} {t : Tr} {v : Value} {zs : List Value} (ho : w.ownsRow 0 28 8 v t.2.len zs) (hp : ∀ b, v.ownBlock = some b → P b) (hk : Kd w P t.2 zs) : ∀ {f : Fo} {xs : List Value}, Kd w P f xs → Kd w P (f.snoc t) (xs ++ (reA t.1.k t.1.s v t.1.mn t.1.mx).toList)
  | .nil, xs, h => by cases h; exact ⟨v, [], zs, by simp, ho, hp, hk, rfl⟩
  | .cons n kids rest, xs, ⟨u, ys, us, e, o, p, k1, k2⟩ => ⟨u, ys ++ (reA t.1.k t.1.s v t.1.mn t.1.mx).toList, us, by rw [e, List.append_assoc], o, p, k1, Kd.snoc ho hp hk k2⟩
theorem TrV.kept {w w' : World} {P : Nat → Prop} {x : Value} {t : Tr} (h : TrV w P x t) (hb : ∀ b, P b → b < w.heap.size → w'.heap[b]? = w.heap[b]?) : TrV w' P x t := by
  obtain ⟨v, zs, e, o, p, k⟩ := h
  exact ⟨v, zs, e, owns8_of_block o (fun k hk => hb k (p k hk) (owns8_lt o hk).2), p, k.kept hb⟩
theorem TrV.mono {w : World} {P P' : Nat → Prop} {x : Value} {t : Tr} (h : TrV w P x t) (hp : ∀ b, b < w.heap.size → P b → P' b) : TrV w P' x t := by
  obtain ⟨v, zs, e, o, p, k⟩ := h
  exact ⟨v, zs, e, o, fun b hb => hp b (owns8_lt o hb).2 (p b hb), k.mono hp⟩
/-- The first of a list that is one. -/
theorem info28 : ∃ i, Tryd.prog.info? 28 = some i ∧ i.zero = some (reV 0 noSet (.slice none 0 0) 0 0) ∧ i.size = 8 ∧ i.bytes = 80 := by
  have h : (Tryd.prog.info? 28).map (fun i => (i.zero, i.size, i.bytes)) = some (some (reV 0 noSet (.slice none 0 0) 0 0), 8, 80) := by kernel_rfl
  cases hi : Tryd.prog.info? 28 with
  | none => rw [hi] at h; cases h
  | some i =>
    rw [hi] at h
    simp only [Option.map_some, Option.some.injEq, Prod.mk.injEq] at h
    exact ⟨i, rfl, h.1, h.2.1, h.2.2⟩
end Go.Proofs.YtnbhpojcckhlmaaDoor
