/-
  A disk in memory ('Dk'), and as the document speaks of it ('M'); how it is kept.
-/
import Derived.Test.YtgbijkdfhkkieaaA
import Derived.Maps.OwnSet
import Derived.Maps.RangeWalk
import Derived.Maps.Ext
namespace Go.Proofs.Ytgbijkdfhkkieaa
open Go.RowKit Go.Maps Go.WideMaps
set_option linter.unusedVariables false

def Bx (w : World) (g : Nat) (t : TypeId) (xs : Array Value) : Prop := w.heap[g]? = some (.cells xs t (0, 0))
section
variable {w w' : World} {g : Nat} {t : TypeId} {xs : Array Value}
theorem Bx.cell (h : Bx w g t xs) (i : Nat) : w.cell? ⟨g, i, none⟩ = xs[i]? := cell_of_row w g i _ t (0, 0) h
theorem Bx.lt (h : Bx w g t xs) : g < w.heap.size := (Array.getElem?_eq_some_iff.1 h).1
theorem Bx.fz (h : Bx w g t xs) (i : Nat) : w.frozen? ⟨g, i, none⟩ = false := frozen_of_row w g i _ t h
theorem Bx.new (w : World) (t : TypeId) (xs : Array Value) : Bx (w.alloc (.cells xs t)) w.heap.size t xs := heap_alloc_new w _
theorem Bx.kept (h : Bx w g t xs) {B : Nat} (hb : Below B w w') (hB : g < B) : Bx w' g t xs := (hb.block g hB).trans h
theorem Bx.below (h : Bx w g t xs) (hb : Below w.heap.size w w') : Bx w' g t xs := h.kept hb h.lt
theorem Bx.but (h : Bx w g t xs) {S : Nat → Prop} (hb : But S w w') (hS : ¬ S g) : Bx w' g t xs := (hb.block g h.lt hS).trans h
theorem Bx.alloc (h : Bx w g t xs) (o : Obj) : Bx (w.alloc o) g t xs := h.below ((Below.refl _ _).alloc (Nat.le_refl _) _)
theorem Bx.drewN (h : Bx w g t xs) (k : Nat) : Bx (w.drewN k) g t xs := h
theorem Bx.drew (h : Bx w g t xs) : Bx w.drew g t xs := h
theorem Bx.set1 (h : Bx w g t xs) (i : Nat) (u : Value) : Bx (w.setCell ⟨g, i, none⟩ u) g t (xs.setIfInBounds i u) := heap_setCell_same w g i _ t _ h
theorem Bx.typ {t' : TypeId} {ys : Array Value} (h : Bx w g t xs) (k : Bx w g t' ys) : t = t' ∧ xs = ys := by
  have := h.symm.trans k
  simp only [Option.some.injEq, Obj.cells.injEq] at this
  exact ⟨this.2.1, this.1⟩
end
theorem but_setCell (w : World) (g i : Nat) (u : Value) : But (fun x => x = g) w (w.setCell ⟨g, i, none⟩ u) := (But.refl (fun x => x = g) w).setCell (p := ⟨g, i, none⟩) (fun _ => rfl) u
theorem but_alloc (S : Nat → Prop) (w : World) (o : Obj) : But S w (w.alloc o) := (But.refl _ w).alloc o
theorem But.of_below {w w' : World} (h : Below w.heap.size w w') (S : Nat → Prop) : But S w w' := but_of_below h S (fun k h1 h2 => by omega)

/-- How an element of a directory reads: nothing, or a file's block. -/
def pe : Value → Option (DataW Nat × List MemPlace)
  | .pointer none => some (.nil, [])
  | .pointer (some ⟨g, 0, none⟩) => some (.held g, [])
  | _ => none
theorem pe_ptr (g : Nat) : pe (.pointer (some ⟨g, 0, none⟩)) = some (.held g, []) := rfl
theorem pe_nil : pe (.pointer none) = some (.nil, []) := rfl
theorem pe_inv {v : Value} {z : DataW Nat × List MemPlace} (h : pe v = some z) : (v = .pointer none ∧ z = (.nil, [])) ∨ ∃ g, v = .pointer (some ⟨g, 0, none⟩) ∧ z = (.held g, []) := by
  unfold pe at h
  split at h
  · cases h; exact .inl ⟨rfl, rfl⟩
  · cases h; exact .inr ⟨_, rfl, rfl⟩
  · cases h

theorem law : Keyed Try.prog 9 := string_keyed Try.underlying9
theorem zero73 (w : World) : (zeroValue 73).run Try.prog w = .ok (.pointer none) w := by kernel_rfl
/-- The name of a text, as a key. -/
abbrev key (s : ByteArray) : Lit := .string s.data.toList
theorem hkey {s : ByteArray} (h : s.size ≤ maxLen) : keyOf Try.prog 9 (.string s) = some (key s) := keyOf_string_mk Try.underlying9 h
theorem isKey (s : List UInt8) : WideAt.IsKeyLit (.string s) := trivial

theorem look {w : World} {b n : Nat} {D : DataW Nat} (h : w.ownsMap Try.prog 9 pe b n D) {s : ByteArray} (hs : s.size ≤ maxLen) :
    (D.atKey (key s) .nil = .nil ∧ (Instr.lookup 62 (.map (some b)) (.string s) false).run Try.prog w = .ok (.pointer none) w) ∨
    ∃ g, D.atKey (key s) .nil = .held g ∧ (Instr.lookup 62 (.map (some b)) (.string s) false).run Try.prog w = .ok (.pointer (some ⟨g, 0, none⟩)) w := by
  obtain ⟨v, ps, hrun, hv⟩ := h.lookup law Try.underlying62 (zero73 w) pe_nil (hkey hs)
  rcases pe_inv hv with ⟨rfl, e⟩ | ⟨g, rfl, e⟩
  · exact .inl ⟨congrArg Prod.fst e, hrun⟩
  · exact .inr ⟨g, congrArg Prod.fst e, hrun⟩
theorem look_none {w : World} {b n : Nat} {D : DataW Nat} (h : w.ownsMap Try.prog 9 pe b n D) {s : ByteArray} (hs : s.size ≤ maxLen) (e : D.atKey (key s) .nil = .nil) : (Instr.lookup 62 (.map (some b)) (.string s) false).run Try.prog w = .ok (.pointer none) w := by
  rcases look h hs with ⟨_, r⟩ | ⟨g, e', r⟩
  · exact r
  · rw [e] at e'; cases e'
theorem look_some {w : World} {b n g : Nat} {D : DataW Nat} (h : w.ownsMap Try.prog 9 pe b n D) {s : ByteArray} (hs : s.size ≤ maxLen) (e : D.atKey (key s) .nil = .held g) : (Instr.lookup 62 (.map (some b)) (.string s) false).run Try.prog w = .ok (.pointer (some ⟨g, 0, none⟩)) w := by
  rcases look h hs with ⟨e', r⟩ | ⟨g', e', r⟩
  · rw [e] at e'; cases e'
  · rw [e] at e'; cases e'; exact r

/-- A disk, as the document speaks of it: 'ids' are the blocks of all files that ever were, 'ct' their bytes and their sure ones. -/
structure M where
  left : Int
  gone : Bool
  steps : Int
  files : DataW Nat
  sure : DataW Nat
  room : Int
  used : Int
  ids : List Nat
  ct : Nat → List Int × List Int
  n : Nat

abbrev u8s (l : List Int) : List Value := l.map (Value.int .u8)
abbrev Byt (l : List Int) : Prop := ∀ x ∈ l, 0 ≤ x ∧ x ≤ 255
abbrev dcs (m : M) (bf bs : Nat) : Array Value := #[.int .i64 m.left, .bool m.gone, .int .i64 m.steps, .map (some bf), .map (some bs), .int .i64 m.room, .int .i64 m.used]

/-- A disk in memory: its own block d, its directories bf, bs, its files' two slices V; nothing of it lies outside T. -/
structure Dk (w : World) (d : Nat) (m : M) (T : Nat → Prop) (bf bs : Nat) (V : Nat → Value × Value) : Prop where
  dk : Bx w d 64 (dcs m bf bs)
  mf : w.ownsMap Try.prog 9 pe bf m.n m.files
  ms : w.ownsMap Try.prog 9 pe bs m.n m.sure
  ne : bf ≠ bs
  td : T d
  tf : T bf
  ts : T bs
  ti : ∀ g ∈ m.ids, T g ∧ (∀ k, (V g).1.ownBlock = some k → T k) ∧ ∀ k, (V g).2.ownBlock = some k → T k
  fl : ∀ g ∈ m.ids, Bx w g 82 #[(V g).1, (V g).2] ∧ w.ownsRow 0 5 1 (V g).1 (m.ct g).1.length (u8s (m.ct g).1) ∧ w.ownsRow 0 5 1 (V g).2 (m.ct g).2.length (u8s (m.ct g).2)
  byt : ∀ g ∈ m.ids, Byt (m.ct g).1 ∧ Byt (m.ct g).2
  s1 : ∀ g ∈ m.ids, ∀ g' ∈ m.ids, ∀ k, (V g).1.ownBlock = some k → (V g').1.ownBlock = some k → g = g'
  s2 : ∀ g ∈ m.ids, ∀ g' ∈ m.ids, ∀ k, (V g).1.ownBlock = some k → (V g').2.ownBlock = some k → False
  vf : ∀ s g, m.files.atKey (.string s) .nil = .held g → g ∈ m.ids
  vs : ∀ s g, m.sure.atKey (.string s) .nil = .held g → g ∈ m.ids
  lt : ∀ x, T x → x < w.heap.size
/-- .. somewhere. -/
def Disk (w : World) (d : Nat) (m : M) (T : Nat → Prop) : Prop := ∃ bf bs V, Dk w d m T bf bs V

theorem row_typ {w : World} {base n k : Nat} {v : Value} {xs : List Value} (h : w.ownsRow base 5 1 v n xs) (hk : v.ownBlock = some k) : ∃ cur, Bx w k 5 cur := by
  rcases h.2 with ⟨rfl, _⟩ | ⟨g, cap, cur, rfl, _, hb, _⟩
  · cases hk
  · cases hk; exact ⟨cur, hb⟩
theorem map_not {w : World} {b n k : Nat} {D : DataW Nat} {t : TypeId} {xs : Array Value} (h : w.ownsMap Try.prog 9 pe b n D) (hk : Bx w k t xs) : b ≠ k := by
  rintro rfl
  obtain ⟨es, clock, hb, _⟩ := h
  have := hb.symm.trans hk
  cases this

section
variable {w w' : World} {d bf bs : Nat} {m : M} {T : Nat → Prop} {V : Nat → Value × Value}
theorem ownsMap_of_block {b n : Nat} {D : DataW Nat} (h : w.ownsMap Try.prog 9 pe b n D) (hb : w'.heap[b]? = w.heap[b]?) : w'.ownsMap Try.prog 9 pe b n D := by
  obtain ⟨es, clock, h1, h2⟩ := h
  exact ⟨es, clock, hb.trans h1, h2⟩
theorem Dk.kept (h : Dk w d m T bf bs V) {S : Nat → Prop} (hb : But S w w') (hS : ∀ x, S x → ¬ T x) : Dk w' d m T bf bs V where
  dk := h.dk.but hb (fun s => hS _ s h.td)
  mf := ownsMap_of_block h.mf (hb.block _ h.mf.lt (fun s => hS _ s h.tf))
  ms := ownsMap_of_block h.ms (hb.block _ h.ms.lt (fun s => hS _ s h.ts))
  ne := h.ne
  td := h.td
  tf := h.tf
  ts := h.ts
  ti := h.ti
  fl := fun g hg => by
    obtain ⟨a, b, c⟩ := h.fl g hg
    obtain ⟨t1, t2, t3⟩ := h.ti g hg
    exact ⟨a.but hb (fun s => hS _ s t1), owns_of_block b (fun k hk => hb.block k (h.lt k (t2 k hk)) (fun s => hS _ s (t2 k hk))), owns_of_block c (fun k hk => hb.block k (h.lt k (t3 k hk)) (fun s => hS _ s (t3 k hk)))⟩
  byt := h.byt
  s1 := h.s1
  s2 := h.s2
  vf := h.vf
  vs := h.vs
  lt := fun x hx => Nat.lt_of_lt_of_le (h.lt x hx) hb.size
theorem Dk.below (h : Dk w d m T bf bs V) (hb : Below w.heap.size w w') : Dk w' d m T bf bs V := h.kept (S := fun _ => False) (but_of_below hb _ (fun k h1 h2 => by omega)) (fun _ hx => hx.elim)
theorem Dk.alloc (h : Dk w d m T bf bs V) (o : Obj) : Dk (w.alloc o) d m T bf bs V := h.below ((Below.refl _ _).alloc (Nat.le_refl _) _)
theorem Dk.drewN (h : Dk w d m T bf bs V) (k : Nat) : Dk (w.drewN k) d m T bf bs V := ⟨h.dk, h.mf, h.ms, h.ne, h.td, h.tf, h.ts, h.ti, h.fl, h.byt, h.s1, h.s2, h.vf, h.vs, h.lt⟩
theorem Dk.drew (h : Dk w d m T bf bs V) : Dk w.drew d m T bf bs V := ⟨h.dk, h.mf, h.ms, h.ne, h.td, h.tf, h.ts, h.ti, h.fl, h.byt, h.s1, h.s2, h.vf, h.vs, h.lt⟩
theorem Dk.more (h : Dk w d m T bf bs V) {T' : Nat → Prop} (hT : ∀ x, T x → T' x) (hlt : ∀ x, T' x → x < w.heap.size) : Dk w d m T' bf bs V :=
  ⟨h.dk, h.mf, h.ms, h.ne, hT _ h.td, hT _ h.tf, hT _ h.ts, fun g hg => ⟨hT _ (h.ti g hg).1, fun k hk => hT _ ((h.ti g hg).2.1 k hk), fun k hk => hT _ ((h.ti g hg).2.2 k hk)⟩, h.fl, h.byt, h.s1, h.s2, h.vf, h.vs, hlt⟩
theorem Dk.ndi (h : Dk w d m T bf bs V) {g : Nat} (hg : g ∈ m.ids) : g ≠ d := by
  rintro rfl
  have := ((h.fl g hg).1.typ h.dk).1
  cases this
theorem Dk.n1 (h : Dk w d m T bf bs V) {g k : Nat} (hg : g ∈ m.ids) (hk : (V g).1.ownBlock = some k) : k ≠ d ∧ k ∉ m.ids ∧ k ≠ bf ∧ k ≠ bs := by
  obtain ⟨cur, hc⟩ := row_typ (h.fl g hg).2.1 hk
  refine ⟨?_, ?_, ?_, ?_⟩
  · rintro rfl
    have := (hc.typ h.dk).1
    cases this
  · intro hi
    have := (hc.typ (h.fl k hi).1).1
    cases this
  · exact fun e => map_not h.mf hc e.symm
  · exact fun e => map_not h.ms hc e.symm
theorem Dk.n2 (h : Dk w d m T bf bs V) {g k : Nat} (hg : g ∈ m.ids) (hk : (V g).2.ownBlock = some k) : k ≠ d ∧ k ∉ m.ids ∧ k ≠ bf ∧ k ≠ bs := by
  obtain ⟨cur, hc⟩ := row_typ (h.fl g hg).2.2 hk
  refine ⟨?_, ?_, ?_, ?_⟩
  · rintro rfl
    have := (hc.typ h.dk).1
    cases this
  · intro hi
    have := (hc.typ (h.fl k hi).1).1
    cases this
  · exact fun e => map_not h.mf hc e.symm
  · exact fun e => map_not h.ms hc e.symm
/-- Its own block alone is turned: the same files, other numbers. -/
theorem Dk.disk (h : Dk w d m T bf bs V) {m' : M} (hb : But (fun x => x = d) w w') (hx : Bx w' d 64 (dcs m' bf bs)) (e1 : m'.files = m.files) (e2 : m'.sure = m.sure) (e3 : m'.ids = m.ids) (e4 : m'.ct = m.ct) (e5 : m'.n = m.n) : Dk w' d m' T bf bs V where
  dk := hx
  mf := by rw [e1, e5]; exact ownsMap_of_block h.mf (hb.block _ h.mf.lt (fun e => map_not h.mf h.dk e))
  ms := by rw [e2, e5]; exact ownsMap_of_block h.ms (hb.block _ h.ms.lt (fun e => map_not h.ms h.dk e))
  ne := h.ne
  td := h.td
  tf := h.tf
  ts := h.ts
  ti := by rw [e3]; exact h.ti
  fl := fun g hg => by
    rw [e3] at hg
    rw [e4]
    obtain ⟨a, b, c⟩ := h.fl g hg
    exact ⟨a.but hb (h.ndi hg), owns_of_block b (fun k hk => hb.block k (b.lt k hk).2 (h.n1 hg hk).1), owns_of_block c (fun k hk => hb.block k (c.lt k hk).2 (h.n2 hg hk).1)⟩
  byt := by rw [e3, e4]; exact h.byt
  s1 := by rw [e3]; exact h.s1
  s2 := by rw [e3]; exact h.s2
  vf := by rw [e1, e3]; exact h.vf
  vs := by rw [e2, e3]; exact h.vs
  lt := fun x hx => Nat.lt_of_lt_of_le (h.lt x hx) hb.size
/-- All new blocks are taken in. -/
def nw (T : Nat → Prop) (w w' : World) : Nat → Prop := fun x => T x ∨ (w.heap.size ≤ x ∧ x < w'.heap.size)
def upd (ct : Nat → List Int × List Int) (g : Nat) (c : List Int × List Int) : Nat → List Int × List Int := fun x => if x = g then c else ct x
def updV (V : Nat → Value × Value) (g : Nat) (c : Value × Value) : Nat → Value × Value := fun x => if x = g then c else V x
/-- A file is turned: its block, and its first slice's row. -/
theorem Dk.file (h : Dk w d m T bf bs V) {g : Nat} (hg : g ∈ m.ids) {v1 v2 : Value} {l1 l2 : List Int} (hb : But (fun x => x = g ∨ (V g).1.ownBlock = some x) w w') (hx : Bx w' g 82 #[v1, v2])
    (o1 : w'.ownsRow 0 5 1 v1 l1.length (u8s l1)) (o2 : w'.ownsRow 0 5 1 v2 l2.length (u8s l2)) (b1 : Byt l1) (b2 : Byt l2)
    (k1 : ∀ k, v1.ownBlock = some k → (V g).1.ownBlock = some k ∨ w.heap.size ≤ k) (k2 : ∀ k, v2.ownBlock = some k → (V g).2.ownBlock = some k ∨ w.heap.size ≤ k) (k3 : ∀ k, v1.ownBlock = some k → v2.ownBlock ≠ some k) :
    Dk w' d { m with ct := upd m.ct g (l1, l2) } (nw T w w') bf bs (updV V g (v1, v2)) where
  dk := h.dk.but hb (fun e => by rcases e with e | e; exact h.ndi hg e.symm; exact (h.n1 hg e).1 rfl)
  mf := ownsMap_of_block h.mf (hb.block _ h.mf.lt (fun e => by rcases e with e | e; exact map_not h.mf (h.fl g hg).1 e; exact (h.n1 hg e).2.2.1 rfl))
  ms := ownsMap_of_block h.ms (hb.block _ h.ms.lt (fun e => by rcases e with e | e; exact map_not h.ms (h.fl g hg).1 e; exact (h.n1 hg e).2.2.2 rfl))
  ne := h.ne
  td := .inl h.td
  tf := .inl h.tf
  ts := .inl h.ts
  ti := fun x hx' => by
    by_cases e : x = g
    · subst e
      simp only [updV, if_pos]
      refine ⟨.inl (h.ti x hx').1, fun k hk => ?_, fun k hk => ?_⟩
      · rcases k1 k hk with e | e
        · exact .inl ((h.ti x hx').2.1 k e)
        · exact .inr ⟨e, (o1.lt k hk).2⟩
      · rcases k2 k hk with e | e
        · exact .inl ((h.ti x hx').2.2 k e)
        · exact .inr ⟨e, (o2.lt k hk).2⟩
    · simp only [updV, if_neg e]
      exact ⟨.inl (h.ti x hx').1, fun k hk => .inl ((h.ti x hx').2.1 k hk), fun k hk => .inl ((h.ti x hx').2.2 k hk)⟩
  fl := fun x hx' => by
    by_cases e : x = g
    · subst e
      simp only [updV, upd, if_pos]
      exact ⟨hx, o1, o2⟩
    · simp only [updV, upd, if_neg e]
      obtain ⟨a, b, c⟩ := h.fl x hx'
      refine ⟨a.but hb (fun f => ?_), owns_of_block b (fun k hk => hb.block k (b.lt k hk).2 (fun f => ?_)), owns_of_block c (fun k hk => hb.block k (c.lt k hk).2 (fun f => ?_))⟩
      · rcases f with f | f
        · exact e f
        · exact (h.n1 hg f).2.1 hx'
      · rcases f with f | f
        · exact (h.n1 hx' hk).2.1 (by rw [f]; exact hg)
        · exact e (h.s1 x hx' g hg k hk f)
      · rcases f with f | f
        · exact (h.n2 hx' hk).2.1 (by rw [f]; exact hg)
        · exact h.s2 g hg x hx' k f hk
  byt := fun x hx' => by
    by_cases e : x = g
    · subst e
      simp only [upd, if_pos]
      exact ⟨b1, b2⟩
    · simp only [upd, if_neg e]
      exact h.byt x hx'
  s1 := fun x hx' y hy k hk hk' => by
    by_cases e : x = g
    · by_cases e' : y = g
      · rw [e, e']
      · simp only [updV, if_pos e, if_neg e'] at hk hk'
        rcases k1 k hk with f | f
        · exact (e'.elim (h.s1 y hy g hg k hk' f))
        · have := (h.fl y hy).2.1.lt k hk'; omega
    · by_cases e' : y = g
      · simp only [updV, if_pos e', if_neg e] at hk hk'
        rcases k1 k hk' with f | f
        · exact (e.elim (h.s1 x hx' g hg k hk f))
        · have := (h.fl x hx').2.1.lt k hk; omega
      · simp only [updV, if_neg e', if_neg e] at hk hk'
        exact h.s1 x hx' y hy k hk hk'
  s2 := fun x hx' y hy k hk hk' => by
    by_cases e : x = g
    · by_cases e' : y = g
      · simp only [updV, if_pos e, if_pos e'] at hk hk'
        exact k3 k hk hk'
      · simp only [updV, if_pos e, if_neg e'] at hk hk'
        rcases k1 k hk with f | f
        · exact h.s2 g hg y hy k f hk'
        · have := (h.fl y hy).2.2.lt k hk'; omega
    · by_cases e' : y = g
      · simp only [updV, if_pos e', if_neg e] at hk hk'
        rcases k2 k hk' with f | f
        · exact h.s2 x hx' g hg k hk f
        · have := (h.fl x hx').2.1.lt k hk; omega
      · simp only [updV, if_neg e', if_neg e] at hk hk'
        exact h.s2 x hx' y hy k hk hk'
  vf := h.vf
  vs := h.vs
  lt := fun x hx => by
    rcases hx with hx | hx
    · exact Nat.lt_of_lt_of_le (h.lt x hx) hb.size
    · exact hx.2
end

/-- What a call on the disk does to the rest: nothing but the disk's blocks is turned, and only new blocks are taken in. -/
structure Up (w : World) (T : Nat → Prop) (w' : World) (T' : Nat → Prop) : Prop where
  but : But T w w'
  own : ∀ x, T' x → T x ∨ w.heap.size ≤ x
theorem Up.refl (w : World) (T : Nat → Prop) : Up w T w T := ⟨But.refl _ _, fun _ h => .inl h⟩
theorem Up.trans {a b c : World} {T T' T'' : Nat → Prop} (h : Up a T b T') (k : Up b T' c T'') : Up a T c T'' :=
  ⟨h.but.trans k.but (fun i hi e => by rcases h.own i e with e | e; exact e; omega), fun x hx => by
    rcases k.own x hx with e | e
    · exact h.own x e
    · exact .inr (Nat.le_trans h.but.size e)⟩
theorem up_nw {w w' : World} {T : Nat → Prop} (h : But T w w') : Up w T w' (nw T w w') := ⟨h, fun x hx => by rcases hx with hx | hx; exact .inl hx; exact .inr hx.1⟩
theorem up_same {w w' : World} {T : Nat → Prop} (h : But T w w') : Up w T w' T := ⟨h, fun x hx => .inl hx⟩
theorem up_below {w w' : World} {T : Nat → Prop} (h : Below w.heap.size w w') : Up w T w' T := up_same (But.of_below h T)
end Go.Proofs.Ytgbijkdfhkkieaa
