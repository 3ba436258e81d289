/-
  Mathematics of programs: codes, put together; how long they are, where they go, what is come to.
-/
import Derived.Test.YtkfdikpnnkbgaaaGreatDoorL
namespace Go.Proofs.YtkfdikpnnkbgaaaGreatDoor
open Go.RowKit
set_option linter.unusedVariables false
set_option linter.unusedSimpArgs false

/-- An instruction. -/
structure Ins where
  op : Int
  s : S4
  x : Int
  y : Int
/-- A code: how many instructions it has, and what is put from a number on, going on at a number. -/
structure Cd where
  n : Nat
  put : Nat → Nat → List Ins
  len : ∀ a m, (put a m).length = n
  pos : 1 ≤ n
def sgl (op : Int) (s : S4) : Cd := ⟨1, fun _ m => [⟨op, s, (m : Int), 0⟩], fun _ _ => rfl, Nat.le_refl _⟩
def endC : Cd := ⟨1, fun _ _ => [⟨3, noSet, 0, 0⟩], fun _ _ => rfl, Nat.le_refl _⟩
def sumN : List Cd → Nat
  | [] => 0
  | c :: r => c.n + sumN r
theorem sumN_append (p q : List Cd) : sumN (p ++ q) = sumN p + sumN q := by
  induction p with
  | nil => simp [sumN]
  | cons c r ih => simp [sumN, ih]; omega
theorem sumN_pos {c : Cd} {r : List Cd} : 1 ≤ sumN (c :: r) := by have := c.pos; simp only [sumN]; omega
theorem sumN_rep (k : Nat) (c : Cd) : sumN (List.replicate k c) = k * c.n := by
  induction k with
  | zero => simp [sumN]
  | succ k ih => simp [List.replicate_succ, sumN, ih, Nat.succ_mul]; omega
/-- All of a list but what goes on elsewhere: each goes on where the next one begins. -/
def preP : List Cd → Nat → List Ins
  | [], _ => []
  | c :: r, a => c.put a (a + c.n) ++ preP r (a + c.n)
def sqP : List Cd → Nat → Nat → List Ins
  | [], _, m => [⟨4, noSet, (m : Int), 0⟩]
  | [c], a, m => c.put a m
  | c :: d :: r, a, m => c.put a (a + c.n) ++ sqP (d :: r) (a + c.n) m
theorem sqP_len : ∀ (l : List Cd) (a m : Nat), (sqP l a m).length = max 1 (sumN l)
  | [], a, m => rfl
  | [c], a, m => by have := c.pos; simp only [sqP, c.len, sumN]; omega
  | c :: d :: r, a, m => by
    have h := sqP_len (d :: r) (a + c.n) m
    have p1 := @sumN_pos d r
    simp only [sqP, List.length_append, c.len, h]
    show _ = max 1 (c.n + sumN (d :: r))
    omega
def sqn (l : List Cd) : Cd := ⟨max 1 (sumN l), sqP l, sqP_len l, Nat.le_max_left _ _⟩
theorem preP_len : ∀ (l : List Cd) (a : Nat), (preP l a).length = sumN l
  | [], a => rfl
  | c :: r, a => by simp only [preP, List.length_append, c.len, preP_len r, sumN]
theorem preP_snoc : ∀ (p : List Cd) (c : Cd) (a : Nat), preP (p ++ [c]) a = preP p a ++ c.put (a + sumN p) (a + sumN p + c.n)
  | [], c, a => by simp [preP, sumN]
  | d :: r, c, a => by
    simp only [List.cons_append, preP, preP_snoc r c, sumN, List.append_assoc, Nat.add_assoc]
theorem sqP_snoc : ∀ (p : List Cd) (c : Cd) (a m : Nat), sqP (p ++ [c]) a m = preP p a ++ c.put (a + sumN p) m
  | [], c, a, m => by simp [sqP, preP, sumN]
  | [d], c, a, m => by simp [sqP, preP, sumN]
  | d :: e :: r, c, a, m => by
    have h := sqP_snoc (e :: r) c (a + d.n) m
    simp only [List.cons_append] at h ⊢
    rw [sqP, h]
    simp only [preP, sumN, List.append_assoc, Nat.add_assoc]
/-- One of a list. -/
def cpN : List Cd → Nat
  | [] => 0
  | c :: r => 1 + c.n + cpN r
def cpP : List Cd → Nat → Nat → List Ins
  | [], _, _ => []
  | c :: r, a, m => ⟨2, noSet, ((a + 1 : Nat) : Int), ((a + 1 + c.n : Nat) : Int)⟩ :: (c.put (a + 1) m ++ cpP r (a + 1 + c.n) m)
def chP : List Cd → Nat → Nat → List Ins
  | [], _, m => [⟨1, noSet, (m : Int), 0⟩]
  | [c], a, m => c.put a m
  | c :: d :: r, a, m => ⟨2, noSet, ((a + 1 : Nat) : Int), ((a + 1 + c.n : Nat) : Int)⟩ :: (c.put (a + 1) m ++ chP (d :: r) (a + 1 + c.n) m)
def chN : List Cd → Nat
  | [] => 1
  | [c] => c.n
  | c :: d :: r => 1 + c.n + chN (d :: r)
theorem chN_pos : ∀ l : List Cd, 1 ≤ chN l
  | [] => Nat.le_refl _
  | [c] => c.pos
  | c :: d :: r => by simp only [chN]; omega
theorem chP_len : ∀ (l : List Cd) (a m : Nat), (chP l a m).length = chN l
  | [], a, m => rfl
  | [c], a, m => c.len a m
  | c :: d :: r, a, m => by simp only [chP, List.length_cons, List.length_append, c.len, chP_len (d :: r), chN]; omega
def chc (l : List Cd) : Cd := ⟨chN l, chP l, chP_len l, chN_pos l⟩
theorem chN_snoc : ∀ (p : List Cd) (c : Cd), chN (p ++ [c]) = cpN p + c.n
  | [], c => by simp [chN, cpN]
  | [d], c => by simp [chN, cpN]
  | d :: e :: r, c => by
    have h := chN_snoc (e :: r) c
    simp only [List.cons_append] at h ⊢
    rw [chN, h]; simp only [cpN]; omega
theorem cpN_append (p q : List Cd) : cpN (p ++ q) = cpN p + cpN q := by
  induction p with
  | nil => simp [cpN]
  | cons c r ih => simp [cpN, ih]; omega
theorem chP_snoc : ∀ (p : List Cd) (c : Cd) (a m : Nat), chP (p ++ [c]) a m = cpP p a m ++ c.put (a + cpN p) m
  | [], c, a, m => by simp [chP, cpP, cpN]
  | [d], c, a, m => by simp [chP, cpP, cpN, Nat.add_assoc]
  | d :: e :: r, c, a, m => by
    have h := chP_snoc (e :: r) c (a + 1 + d.n) m
    simp only [List.cons_append] at h ⊢
    rw [chP, h]
    simp only [cpP, cpN, List.append_assoc, Nat.add_assoc, List.cons_append]
theorem cpP_len : ∀ (l : List Cd) (a m : Nat), (cpP l a m).length = cpN l
  | [], a, m => rfl
  | c :: r, a, m => by simp only [cpP, List.length_cons, List.length_append, c.len, cpP_len r, cpN]; omega
/-- One that may be left out. -/
def opt (c : Cd) (o : Nat) : Cd := ⟨1 + c.n, fun a m => ⟨2, noSet, ((a + 1 : Nat) : Int), (o : Int)⟩ :: c.put (a + 1) m, fun a m => by simp only [List.length_cons, c.len]; omega, by omega⟩
def lp (c : Cd) : Cd := ⟨1 + c.n, fun a m => ⟨2, noSet, ((a + 1 : Nat) : Int), (m : Int)⟩ :: c.put (a + 1) a, fun a m => by simp only [List.length_cons, c.len]; omega, by omega⟩
theorem cpP_snoc : ∀ (p : List Cd) (c : Cd) (a m : Nat), cpP (p ++ [c]) a m = cpP p a m ++ (opt c (a + cpN p + 1 + c.n)).put (a + cpN p) m
  | [], c, a, m => by simp [cpP, cpN, opt]
  | d :: r, c, a, m => by
    have e : a + 1 + d.n + cpN r = a + cpN (d :: r) := by simp only [cpN]; omega
    simp only [List.cons_append, cpP, cpP_snoc r c, e, List.append_assoc]
/-- Repeated. -/
def rpL (c : Cd) (mn : Nat) (mx : Int) (m : Nat) : List Cd := List.replicate mn c ++ (if mx = -1 then [lp c] else List.replicate (mx.toNat - mn) (opt c m))
theorem rpL_sum (c : Cd) (mn : Nat) (mx : Int) (m : Nat) : sumN (rpL c mn mx m) = mn * c.n + (if mx = -1 then c.n + 1 else (mx.toNat - mn) * (c.n + 1)) := by
  unfold rpL
  rw [sumN_append, sumN_rep]
  split
  · simp [sumN, lp]; omega
  · rw [sumN_rep]; simp only [opt]; rw [Nat.add_comm 1]
def rp (c : Cd) (mn : Nat) (mx : Int) : Cd := ⟨max 1 (sumN (rpL c mn mx 0)), fun a m => sqP (rpL c mn mx m) a m, fun a m => by rw [sqP_len, rpL_sum, rpL_sum], Nat.le_max_left _ _⟩
/-- The code of a pattern. -/
def cdN (n : Nd) (l : List Cd) : Cd := if n.k = 1 then sgl 1 n.s else if n.k = 4 then rp (l.headD (sgl 4 noSet)) n.mn.toNat n.mx else if n.k = 3 then chc l else sqn l
def Fo.cds : Fo → List Cd
  | .nil => []
  | .cons n k r => cdN n k.cds :: r.cds
theorem Fo.cds_len : ∀ f : Fo, f.cds.length = f.len
  | .nil => rfl
  | .cons n k r => by simp [Fo.cds, Fo.len, Fo.cds_len r]
def cdT (t : Tr) : Cd := cdN t.1 t.2.cds
def prg (t : Tr) : Cd := sqn [cdT t, endC]
theorem prg_n (t : Tr) : (prg t).n = (cdT t).n + 1 := by have := (cdT t).pos; simp only [prg, sqn, sumN, endC]; omega
theorem prg_put (t : Tr) : (prg t).put 0 0 = (cdT t).put 0 (cdT t).n ++ [⟨3, noSet, 0, 0⟩] := by simp [prg, sqn, sqP, endC]

/-- Numbers are one up to a bound. -/
def cap : Nat := 1048576
def SzOk (z n : Nat) : Prop := min z cap = min n cap
theorem SzOk.exact {z n : Nat} (h : SzOk z n) (hn : n < cap) : z = n := by unfold SzOk at h; omega
theorem SzOk.add {z n y m : Nat} (h : SzOk z n) (k : SzOk y m) : SzOk (min (z + y) cap) (n + m) := by unfold SzOk at *; omega
theorem SzOk.add1 {z n y m : Nat} (h : SzOk z n) (k : SzOk y m) : SzOk (min (z + 1 + y) cap) (n + (1 + m)) := by unfold SzOk at *; omega
theorem SzOk.one {z n : Nat} (h : SzOk z n) : SzOk (1 + z) (1 + n) := by unfold SzOk at *; omega

/-- Where an instruction of a code from lo to hi that goes on at m may go. -/
def Tgt (E : Int → Prop) (lo hi m : Nat) (z : Int) : Prop := ((lo : Int) ≤ z ∧ z < (hi : Int)) ∨ z = (m : Int) ∨ E z
def OkI (E : Int → Prop) (lo hi m : Nat) (i : Ins) : Prop := (i.op = 1 ∧ i.y = 0 ∨ i.op = 4 ∧ i.s = noSet ∧ i.y = 0 ∨ i.op = 2 ∧ i.s = noSet ∧ Tgt E lo hi m i.y) ∧ Tgt E lo hi m i.x
def Ops (E : Int → Prop) (c : Cd) : Prop := ∀ a m, ∀ i ∈ c.put a m, OkI E a (a + c.n) m i
theorem Tgt.mono {E E' : Int → Prop} {lo hi m lo' hi' m' : Nat} {z : Int} (h : Tgt E lo hi m z) (h1 : lo' ≤ lo) (h2 : hi ≤ hi') (h3 : m = m' ∨ lo' ≤ m ∧ m < hi' ∨ E' (m : Int)) (h4 : ∀ z, E z → E' z) : Tgt E' lo' hi' m' z := by
  rcases h with h | h | h
  · exact .inl ⟨by omega, by omega⟩
  · subst h
    rcases h3 with h3 | h3 | h3
    · exact .inr (.inl (by omega))
    · exact .inl ⟨by omega, by omega⟩
    · exact .inr (.inr h3)
  · exact .inr (.inr (h4 z h))
theorem OkI.mono {E E' : Int → Prop} {lo hi m lo' hi' m' : Nat} {i : Ins} (h : OkI E lo hi m i) (h1 : lo' ≤ lo) (h2 : hi ≤ hi') (h3 : m = m' ∨ lo' ≤ m ∧ m < hi' ∨ E' (m : Int)) (h4 : ∀ z, E z → E' z) : OkI E' lo' hi' m' i :=
  ⟨by rcases h.1 with h | h | ⟨a, b, c⟩
      · exact .inl h
      · exact .inr (.inl h)
      · exact .inr (.inr ⟨a, b, c.mono h1 h2 h3 h4⟩), h.2.mono h1 h2 h3 h4⟩
theorem sq_ops (E : Int → Prop) : ∀ (l : List Cd) (a m : Nat), (∀ c ∈ l, Ops E c) → ∀ i ∈ sqP l a m, OkI E a (a + max 1 (sumN l)) m i
  | [], a, m, _, i, hi => by
    simp only [sqP, List.mem_singleton] at hi
    subst hi
    exact ⟨.inr (.inl ⟨rfl, rfl, rfl⟩), .inr (.inl rfl)⟩
  | [c], a, m, h, i, hi => by
    have p := c.pos
    exact ((h c (by simp)) a m i hi).mono (Nat.le_refl _) (by simp only [sumN]; omega) (.inl rfl) (fun _ h => h)
  | c :: d :: r, a, m, h, i, hi => by
    have p := @sumN_pos d r
    have e : sumN (c :: d :: r) = c.n + sumN (d :: r) := rfl
    rw [e]
    simp only [sqP, List.mem_append] at hi
    rcases hi with hi | hi
    · exact ((h c (by simp)) a _ i hi).mono (Nat.le_refl _) (by omega) (.inr (.inl ⟨by omega, by omega⟩)) (fun _ h => h)
    · exact (sq_ops E (d :: r) _ m (fun c' hc => h c' (List.mem_cons_of_mem _ hc)) i hi).mono (by omega) (by omega) (.inl rfl) (fun _ h => h)
theorem ch_ops (E : Int → Prop) : ∀ (l : List Cd) (a m : Nat), (∀ c ∈ l, Ops E c) → ∀ i ∈ chP l a m, OkI E a (a + chN l) m i
  | [], a, m, _, i, hi => by
    simp only [chP, List.mem_singleton] at hi
    subst hi
    exact ⟨.inl ⟨rfl, rfl⟩, .inr (.inl rfl)⟩
  | [c], a, m, h, i, hi => (h c (by simp)) a m i hi
  | c :: d :: r, a, m, h, i, hi => by
    have p := c.pos
    have p2 := chN_pos (d :: r)
    have e : chN (c :: d :: r) = 1 + c.n + chN (d :: r) := rfl
    rw [e]
    simp only [chP, List.mem_cons, List.mem_append] at hi
    rcases hi with hi | hi | hi
    · subst hi
      exact ⟨.inr (.inr ⟨rfl, rfl, .inl ⟨by simp only; omega, by simp only; omega⟩⟩), .inl ⟨by simp only; omega, by simp only; omega⟩⟩
    · exact ((h c (by simp)) _ m i hi).mono (by omega) (by omega) (.inl rfl) (fun _ h => h)
    · exact (ch_ops E (d :: r) _ m (fun c' hc => h c' (List.mem_cons_of_mem _ hc)) i hi).mono (by omega) (by omega) (.inl rfl) (fun _ h => h)
theorem opt_ops {E : Int → Prop} {c : Cd} (h : Ops E c) (o : Nat) (ho : E (o : Int)) : Ops E (opt c o) := fun a m i hi => by
  have p := c.pos
  simp only [opt, List.mem_cons] at hi ⊢
  rcases hi with hi | hi
  · subst hi
    exact ⟨.inr (.inr ⟨rfl, rfl, .inr (.inr ho)⟩), .inl ⟨by simp only; omega, by simp only; omega⟩⟩
  · exact (h _ m i hi).mono (by omega) (by omega) (.inl rfl) (fun _ h => h)
theorem lp_ops {E : Int → Prop} {c : Cd} (h : Ops E c) : Ops E (lp c) := fun a m i hi => by
  have p := c.pos
  simp only [lp, List.mem_cons] at hi ⊢
  rcases hi with hi | hi
  · subst hi
    exact ⟨.inr (.inr ⟨rfl, rfl, .inr (.inl rfl)⟩), .inl ⟨by simp only; omega, by simp only; omega⟩⟩
  · exact (h _ a i hi).mono (by omega) (by omega) (.inr (.inl ⟨by omega, by omega⟩)) (fun _ h => h)
theorem Ops.mono {E E' : Int → Prop} {c : Cd} (h : Ops E c) (hE : ∀ z, E z → E' z) : Ops E' c := fun a m i hi => (h a m i hi).mono (Nat.le_refl _) (Nat.le_refl _) (.inl rfl) hE
theorem rp_ops {c : Cd} (h : Ops (fun _ => False) c) (mn : Nat) (mx : Int) : Ops (fun _ => False) (rp c mn mx) := fun a m i hi => by
  have h1 : ∀ d ∈ rpL c mn mx m, Ops (fun z => z = (m : Int)) d := fun d hd => by
    have hc : Ops (fun z => z = (m : Int)) c := h.mono (fun _ h => h.elim)
    unfold rpL at hd
    rcases List.mem_append.1 hd with hd | hd
    · rw [(List.mem_replicate.1 hd).2]; exact hc
    · split at hd
      · rw [List.mem_singleton.1 hd]; exact lp_ops hc
      · rw [(List.mem_replicate.1 hd).2]; exact opt_ops hc m rfl
  have h2 := sq_ops _ _ a m h1 i hi
  have e : (rp c mn mx).n = max 1 (sumN (rpL c mn mx m)) := by simp only [rp, rpL_sum]
  rw [e]
  refine ⟨?_, ?_⟩
  · rcases h2.1 with h | h | ⟨x, y, z⟩
    · exact .inl h
    · exact .inr (.inl h)
    · refine .inr (.inr ⟨x, y, ?_⟩)
      rcases z with z | z | z
      · exact .inl z
      · exact .inr (.inl z)
      · exact .inr (.inl z)
  · rcases h2.2 with z | z | z
    · exact .inl z
    · exact .inr (.inl z)
    · exact .inr (.inl z)

/-- Moved by d. -/
def shI (d : Nat) (i : Ins) : Ins := ⟨i.op, i.s, if i.op = 3 then i.x else i.x + (d : Int), if i.op = 2 then i.y + (d : Int) else i.y⟩
def Shf (d : Nat) (c c' : Cd) : Prop := c'.n = c.n ∧ ∀ a m, c'.put (a + d) (m + d) = (c.put a m).map (shI d)
def ShL (d : Nat) : List Cd → List Cd → Prop
  | [], [] => True
  | c :: r, c' :: r' => Shf d c c' ∧ ShL d r r'
  | _, _ => False
theorem ShL.append {d : Nat} : ∀ {p p' q q' : List Cd}, ShL d p p' → ShL d q q' → ShL d (p ++ q) (p' ++ q')
  | [], [], _, _, _, h => h
  | c :: r, c' :: r', _, _, h, k => ⟨h.1, ShL.append h.2 k⟩
theorem ShL.rep {d : Nat} {c c' : Cd} (h : Shf d c c') : ∀ k, ShL d (List.replicate k c) (List.replicate k c')
  | 0 => trivial
  | k + 1 => ⟨h, ShL.rep h k⟩
theorem ShL.all {d : Nat} : ∀ {l : List Cd}, (∀ c ∈ l, Shf d c c) → ShL d l l
  | [], _ => trivial
  | c :: r, h => ⟨h c (by simp), ShL.all (fun x hx => h x (List.mem_cons_of_mem _ hx))⟩
theorem sq_sh {d : Nat} : ∀ {l l' : List Cd}, ShL d l l' → ∀ a m, sqP l' (a + d) (m + d) = (sqP l a m).map (shI d)
  | [], [], _, a, m => by simp [sqP, shI]
  | [c], [c'], h, a, m => h.1.2 a m
  | c :: e :: r, c' :: e' :: r', h, a, m => by
    have h2 := sq_sh (l := e :: r) (l' := e' :: r') h.2 (a + c.n) m
    have h3 := h.1.2 a (a + c.n)
    have e1 : a + d + c'.n = a + c.n + d := by rw [h.1.1]; omega
    simp only [sqP, List.map_append, e1, h2, h3]
theorem ch_sh {d : Nat} : ∀ {l l' : List Cd}, ShL d l l' → ∀ a m, chP l' (a + d) (m + d) = (chP l a m).map (shI d)
  | [], [], _, a, m => by simp [chP, shI]
  | [c], [c'], h, a, m => h.1.2 a m
  | c :: e :: r, c' :: e' :: r', h, a, m => by
    have h2 := ch_sh (l := e :: r) (l' := e' :: r') h.2 (a + 1 + c.n) m
    have h3 := h.1.2 (a + 1) m
    have e1 : a + d + 1 + c'.n = a + 1 + c.n + d := by rw [h.1.1]; omega
    have e2 : a + d + 1 = a + 1 + d := by omega
    simp only [chP, List.map_cons, List.map_append, e1, h2, e2, h3, shI]
    simp
    exact ⟨by omega, by rw [show a + 1 + d + c'.n = a + 1 + c.n + d by omega]; exact h2⟩
theorem opt_sh {d : Nat} {c : Cd} (h : Shf d c c) (o : Nat) : Shf d (opt c o) (opt c (o + d)) := ⟨rfl, fun a m => by
  have h3 := h.2 (a + 1) m
  have e2 : a + d + 1 = a + 1 + d := by omega
  simp only [opt, e2, h3, List.map_cons, shI]
  simp⟩
theorem lp_sh {d : Nat} {c : Cd} (h : Shf d c c) : Shf d (lp c) (lp c) := ⟨rfl, fun a m => by
  have h3 := h.2 (a + 1) a
  have e2 : a + d + 1 = a + 1 + d := by omega
  simp only [lp, e2, h3, List.map_cons, shI]
  simp⟩
theorem rp_sh {d : Nat} {c : Cd} (h : Shf d c c) (mn : Nat) (mx : Int) : Shf d (rp c mn mx) (rp c mn mx) := ⟨rfl, fun a m => by
  refine sq_sh ?_ a m
  unfold rpL
  refine (ShL.rep h mn).append ?_
  split
  · exact ⟨lp_sh h, trivial⟩
  · exact ShL.rep (opt_sh h m) _⟩

/-- What an instruction goes to is in S. -/
def Goes (S : Nat → Prop) (i : Ins) : Prop := S i.x.toNat ∧ (i.op = 2 → S i.y.toNat)
def Rch (c : Cd) : Prop := ∀ a m (S : Nat → Prop), S a → (∀ k i, (c.put a m)[k]? = some i → S (a + k) → Goes S i) → (∀ k, k < c.n → S (a + k)) ∧ S m
theorem sq_rch : ∀ (l : List Cd), (∀ c ∈ l, Rch c) → ∀ a m (S : Nat → Prop), S a → (∀ k i, (sqP l a m)[k]? = some i → S (a + k) → Goes S i) → (∀ k, k < max 1 (sumN l) → S (a + k)) ∧ S m
  | [], _, a, m, S, h0, h => by
    have := h 0 _ rfl h0
    refine ⟨fun k hk => ?_, by simpa using this.1⟩
    simp only [sumN] at hk
    obtain rfl : k = 0 := by omega
    exact h0
  | [c], hl, a, m, S, h0, h => by
    have := hl c (by simp) a m S h0 h
    have p := c.pos
    refine ⟨fun k hk => this.1 k (by simp only [sumN] at hk; omega), this.2⟩
  | c :: d :: r, hl, a, m, S, h0, h => by
    have p := c.pos
    have h1 := hl c (by simp) a (a + c.n) S h0 (fun k i hi hS => h k i (by
      simp only [sqP]
      rw [List.getElem?_append_left (by rw [c.len]; have := (List.getElem?_eq_some_iff.1 hi).1; rwa [c.len] at this)]
      exact hi) hS)
    have h2 := sq_rch (d :: r) (fun x hx => hl x (List.mem_cons_of_mem _ hx)) (a + c.n) m S h1.2 (fun k i hi hS => h (c.n + k) i (by
      simp only [sqP]
      rw [List.getElem?_append_right (by rw [c.len]; omega), c.len, Nat.add_sub_cancel_left]
      exact hi) (by rwa [← Nat.add_assoc]))
    refine ⟨fun k hk => ?_, h2.2⟩
    rcases Nat.lt_or_ge k c.n with hk1 | hk1
    · exact h1.1 k hk1
    · have e : sumN (c :: d :: r) = c.n + sumN (d :: r) := rfl
      have := h2.1 (k - c.n) (by rw [e] at hk; have := @sumN_pos d r; omega)
      rwa [show a + c.n + (k - c.n) = a + k by omega] at this
theorem ch_rch : ∀ (l : List Cd), (∀ c ∈ l, Rch c) → ∀ a m (S : Nat → Prop), S a → (∀ k i, (chP l a m)[k]? = some i → S (a + k) → Goes S i) → (∀ k, k < chN l → S (a + k)) ∧ S m
  | [], _, a, m, S, h0, h => by
    have := h 0 _ rfl h0
    refine ⟨fun k hk => ?_, by simpa using this.1⟩
    simp only [chN] at hk
    obtain rfl : k = 0 := by omega
    exact h0
  | [c], hl, a, m, S, h0, h => hl c (by simp) a m S h0 h
  | c :: d :: r, hl, a, m, S, h0, h => by
    have p := c.pos
    have g := h 0 ⟨2, noSet, ((a + 1 : Nat) : Int), ((a + 1 + c.n : Nat) : Int)⟩ rfl h0
    have g1 : S (a + 1) := by simpa using g.1
    have g2 : S (a + 1 + c.n) := by
      have := g.2 rfl
      simp only at this
      rwa [show ((a + 1 + c.n : Nat) : Int).toNat = a + 1 + c.n by omega] at this
    have h1 := hl c (by simp) (a + 1) m S g1 (fun k i hi hS => h (1 + k) i (by
      simp only [chP]
      rw [Nat.add_comm 1 k, List.getElem?_cons_succ, List.getElem?_append_left (by rw [c.len]; have := (List.getElem?_eq_some_iff.1 hi).1; rwa [c.len] at this)]
      exact hi) (by rwa [← Nat.add_assoc]))
    have h2 := ch_rch (d :: r) (fun x hx => hl x (List.mem_cons_of_mem _ hx)) (a + 1 + c.n) m S g2 (fun k i hi hS => h (1 + c.n + k) i (by
      simp only [chP]
      rw [show 1 + c.n + k = c.n + k + 1 by omega, List.getElem?_cons_succ, List.getElem?_append_right (by rw [c.len]; omega), c.len, Nat.add_sub_cancel_left]
      exact hi) (by rwa [show a + (1 + c.n + k) = a + 1 + c.n + k by omega]))
    refine ⟨fun k hk => ?_, h1.2⟩
    have e : chN (c :: d :: r) = 1 + c.n + chN (d :: r) := rfl
    rcases Nat.lt_or_ge k 1 with hk0 | hk0
    · obtain rfl : k = 0 := by omega
      exact h0
    · rcases Nat.lt_or_ge k (1 + c.n) with hk1 | hk1
      · have := h1.1 (k - 1) (by omega)
        rwa [show a + 1 + (k - 1) = a + k by omega] at this
      · have := h2.1 (k - (1 + c.n)) (by omega)
        rwa [show a + 1 + c.n + (k - (1 + c.n)) = a + k by omega] at this
theorem opt_rch {c : Cd} (h : Rch c) (o : Nat) : Rch (opt c o) := fun a m S h0 hh => by
  have g := hh 0 ⟨2, noSet, ((a + 1 : Nat) : Int), (o : Int)⟩ rfl h0
  have g1 : S (a + 1) := by simpa using g.1
  have h1 := h (a + 1) m S g1 (fun k i hi hS => hh (k + 1) i (by simpa [opt] using hi) (by rwa [show a + (k + 1) = a + 1 + k by omega]))
  refine ⟨fun k hk => ?_, h1.2⟩
  simp only [opt] at hk
  rcases Nat.eq_zero_or_pos k with rfl | hk0
  · exact h0
  · have := h1.1 (k - 1) (by omega)
    rwa [show a + 1 + (k - 1) = a + k by omega] at this
theorem lp_rch {c : Cd} (h : Rch c) : Rch (lp c) := fun a m S h0 hh => by
  have g := hh 0 ⟨2, noSet, ((a + 1 : Nat) : Int), (m : Int)⟩ rfl h0
  have g1 : S (a + 1) := by simpa using g.1
  have g2 : S m := by simpa using g.2 rfl
  have h1 := h (a + 1) a S g1 (fun k i hi hS => hh (k + 1) i (by simpa [lp] using hi) (by rwa [show a + (k + 1) = a + 1 + k by omega]))
  refine ⟨fun k hk => ?_, g2⟩
  simp only [lp] at hk
  rcases Nat.eq_zero_or_pos k with rfl | hk0
  · exact h0
  · have := h1.1 (k - 1) (by omega)
    rwa [show a + 1 + (k - 1) = a + k by omega] at this
theorem rp_rch {c : Cd} (h : Rch c) (mn : Nat) (mx : Int) : Rch (rp c mn mx) := fun a m S h0 hh => by
  have h1 : ∀ d ∈ rpL c mn mx m, Rch d := fun d hd => by
    unfold rpL at hd
    rcases List.mem_append.1 hd with hd | hd
    · rw [(List.mem_replicate.1 hd).2]; exact h
    · split at hd
      · rw [List.mem_singleton.1 hd]; exact lp_rch h
      · rw [(List.mem_replicate.1 hd).2]; exact opt_rch h m
  have h2 := sq_rch _ h1 a m S h0 hh
  refine ⟨fun k hk => h2.1 k ?_, h2.2⟩
  rw [rpL_sum]
  simpa only [rp, rpL_sum] using hk

/-- What holds of the code of any pattern that may be. -/
structure Nice (c : Cd) : Prop where
  ops : Ops (fun _ => False) c
  sh : ∀ d, Shf d c c
  rch : Rch c
theorem sgl_nice (op : Int) (s : S4) (h : op = 1 ∨ op = 4 ∧ s = noSet) : Nice (sgl op s) := by
  refine ⟨fun a m i hi => ?_, fun d => ⟨rfl, fun a m => ?_⟩, fun a m S h0 hh => ?_⟩
  · simp only [sgl, List.mem_singleton] at hi
    subst hi
    rcases h with h | ⟨h, h'⟩
    · exact ⟨.inl ⟨h, rfl⟩, .inr (.inl rfl)⟩
    · exact ⟨.inr (.inl ⟨h, h', rfl⟩), .inr (.inl rfl)⟩
  · simp only [sgl, List.map_cons, List.map_nil, shI]
    rw [if_neg (by omega), if_neg (by omega)]
    simp
  · have g := hh 0 _ rfl h0
    refine ⟨fun k hk => ?_, by simpa using g.1⟩
    simp only [sgl] at hk
    obtain rfl : k = 0 := by omega
    exact h0
theorem cdN_nice (n : Nd) (l : List Cd) (h : fitN n l.length) (hl : ∀ c ∈ l, Nice c) : Nice (cdN n l) := by
  unfold cdN
  split
  · exact sgl_nice 1 _ (.inl rfl)
  · split
    · rename_i h4
      obtain ⟨h1, _⟩ := h.2.1 h4
      cases l with
      | nil => simp at h1
      | cons c r =>
        have hc := hl c (by simp)
        exact ⟨rp_ops hc.ops _ _, fun d => rp_sh (hc.sh d) _ _, rp_rch hc.rch _ _⟩
    · split
      · exact ⟨fun a m => ch_ops _ l a m (fun c hc => (hl c hc).ops), fun d => ⟨rfl, fun a m => ch_sh (ShL.all (fun c hc => (hl c hc).sh d)) a m⟩, fun a m S h0 hh => ch_rch l (fun c hc => (hl c hc).rch) a m S h0 hh⟩
      · exact ⟨fun a m => sq_ops _ l a m (fun c hc => (hl c hc).ops), fun d => ⟨rfl, fun a m => sq_sh (ShL.all (fun c hc => (hl c hc).sh d)) a m⟩, fun a m S h0 hh => sq_rch l (fun c hc => (hl c hc).rch) a m S h0 hh⟩
theorem fo_nice : ∀ f : Fo, f.fit → ∀ c ∈ f.cds, Nice c
  | .nil, _, c, h => (List.not_mem_nil h).elim
  | .cons n k r, ⟨h1, h2, h3⟩, c, h => by
    simp only [Fo.cds, List.mem_cons] at h
    rcases h with rfl | h
    · exact cdN_nice n _ (by rw [Fo.cds_len]; exact h1) (fo_nice k h2)
    · exact fo_nice r h3 c h
theorem cdT_nice (t : Tr) (h : fitT t) : Nice (cdT t) := cdN_nice t.1 _ (by rw [Fo.cds_len]; exact h.1) (fo_nice t.2 h.2)
end Go.Proofs.YtkfdikpnnkbgaaaGreatDoor
