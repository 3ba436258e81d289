/-
  Crash: as the document speaks of it, and what of the disk a crash can turn.
-/
import Derived.Test.YtgbijkdfhkkieaaU
namespace Go.Proofs.Ytgbijkdfhkkieaa
open Go.RowKit Go.Maps Go.Shelf
set_option linter.unusedVariables false
set_option linter.unusedSimpArgs false

/-- The file of a name. -/
def gof (D : DataW Nat) (s : List UInt8) : Nat := match D.atKey (.string s) .nil with | .held g => g | _ => 0
/-- What a crash goes through: the files' bytes, the picks that are left, the sectors so far. -/
structure CS where
  ct : Nat → List Int × List Int
  ps : List Int
  U : Int
def cst (D : DataW Nat) (c : CS) (s : List UInt8) : CS := ⟨upd c.ct (gof D s) ((crF (c.ct (gof D s)).1 (c.ct (gof D s)).2 c.ps).1, (crF (c.ct (gof D s)).1 (c.ct (gof D s)).2 c.ps).1), (crF (c.ct (gof D s)).1 (c.ct (gof D s)).2 c.ps).2, c.U + (sec (crF (c.ct (gof D s)).1 (c.ct (gof D s)).2 c.ps).1.length : Int)⟩
def cfo (D : DataW Nat) (c : CS) (ss : List (List UInt8)) : CS := ss.foldl (cst D) c
theorem cfo_snoc (D : DataW Nat) (c : CS) (ss : List (List UInt8)) (s : List UInt8) : cfo D c (ss ++ [s]) = cst D (cfo D c ss) s := by simp [cfo]
/-- A disk behind a crash. -/
def mcr (m : M) (ps : List Int) : M := { m with left := -1, gone := false, files := m.sure, used := (cfo m.sure ⟨m.ct, ps, 0⟩ (nms m.sure)).U, ct := (cfo m.sure ⟨m.ct, ps, 0⟩ (nms m.sure)).ct }
/-- Each name has a file. -/
def Gd (D : DataW Nat) : Prop := ∀ s, Maps.has D (.string s) = true → ∃ g, D.atKey (.string s) .nil = .held g
theorem mxA_length : ∀ (f : Nat) (S N p : List Int), N.length = S.length → (mxA f S N p).1.length = S.length
  | 0, S, N, p, _ => rfl
  | f + 1, S, N, p, h => by
    unfold mxA
    split
    · rename_i e; rw [e]
    · simp only [List.length_append]
      rw [mixS_length _ (by simp [h]), mxA_length f _ _ _ (by simp [h])]
      simp
      omega
theorem crF_length (now sure ps : List Int) : (crF now sure ps).1.length = (crSz now sure ps).1 := by
  unfold crF
  rw [mxA_length _ _ _ _ (by rw [fil_length, fil_length]), fil_length]
theorem snocInd {α : Type} {P : List α → Prop} (h0 : P []) (h1 : ∀ l a, P l → P (l ++ [a])) : ∀ l, P l := by
  intro l
  have key : ∀ r : List α, P r.reverse := by
    intro r
    induction r with
    | nil => exact h0
    | cons a r ih => rw [List.reverse_cons]; exact h1 _ _ ih
  simpa using key l.reverse
/-- How far a crash goes. -/
theorem cfo_le {D : DataW Nat} {K : Nat} {ids : List Nat} {c0 : CS} (h0 : ∀ g ∈ ids, (c0.ct g).1.length ≤ K ∧ (c0.ct g).2.length ≤ K) (hK : K ≤ 1073741824) : ∀ ss : List (List UInt8), (∀ s ∈ ss, gof D s ∈ ids) →
    (∀ g ∈ ids, ((cfo D c0 ss).ct g).1.length ≤ K ∧ ((cfo D c0 ss).ct g).2.length ≤ K) ∧ c0.U ≤ (cfo D c0 ss).U ∧ (cfo D c0 ss).U ≤ c0.U + ss.length * (sec K : Nat) := by
  refine snocInd ?_ ?_
  · intro _; exact ⟨h0, Int.le_refl _, by simp [cfo]⟩
  · intro ss s ih hs
    obtain ⟨i1, i2, i3⟩ := ih (fun x hx => hs x (by simp [hx]))
    rw [cfo_snoc]
    generalize cfo D c0 ss = c at *
    have hg := hs s (by simp)
    obtain ⟨g1, g2⟩ := i1 _ hg
    have hl : (crF (c.ct (gof D s)).1 (c.ct (gof D s)).2 c.ps).1.length ≤ K := by
      rw [crF_length]
      have := (crSz_le (c.ct (gof D s)).1 (c.ct (gof D s)).2 c.ps).2
      omega
    have hsec : sec (crF (c.ct (gof D s)).1 (c.ct (gof D s)).2 c.ps).1.length ≤ sec K := by unfold sec; omega
    refine ⟨fun g hg' => ?_, ?_, ?_⟩
    · simp only [cst, upd]
      split
      · exact ⟨hl, hl⟩
      · exact i1 g hg'
    · simp only [cst]
      omega
    · simp only [cst, List.length_append, List.length_singleton]
      have : ((ss.length + 1 : Nat) : Int) * (sec K : Nat) = ss.length * (sec K : Nat) + (sec K : Nat) := by
        rw [Int.natCast_add, Int.add_mul]; simp
      omega

/-- Just the blocks that a disk is in. -/
def Tt (d bf bs : Nat) (ids : List Nat) (V : Nat → Value × Value) : Nat → Prop := fun x => x = d ∨ x = bf ∨ x = bs ∨ x ∈ ids ∨ ∃ g ∈ ids, (V g).1.ownBlock = some x ∨ (V g).2.ownBlock = some x
section
variable {w w' : World} {d bf bs : Nat} {m : M} {T : Nat → Prop} {V : Nat → Value × Value}
theorem Dk.tt (h : Dk w d m T bf bs V) : ∀ x, Tt d bf bs m.ids V x → T x := by
  rintro x (rfl | rfl | rfl | hx | ⟨g, hg, hx | hx⟩)
  · exact h.td
  · exact h.tf
  · exact h.ts
  · exact (h.ti x hx).1
  · exact (h.ti g hg).2.1 x hx
  · exact (h.ti g hg).2.2 x hx
theorem Dk.tight (h : Dk w d m T bf bs V) : Dk w d m (Tt d bf bs m.ids V) bf bs V :=
  ⟨h.dk, h.mf, h.ms, h.ne, .inl rfl, .inr (.inl rfl), .inr (.inr (.inl rfl)), fun g hg => ⟨.inr (.inr (.inr (.inl hg))), fun k hk => .inr (.inr (.inr (.inr ⟨g, hg, .inl hk⟩))), fun k hk => .inr (.inr (.inr (.inr ⟨g, hg, .inr hk⟩)))⟩, h.fl, h.byt, h.s1, h.s2, h.vf, h.vs, fun x hx => h.lt x (h.tt x hx)⟩
theorem Dk.cells (h : Dk w d m T bf bs V) {k : Nat} {o : Obj} (hk : Tt d bf bs m.ids V k) (ho : w.heap[k]? = some o) (hn : o.isCells = false) : k = bf ∨ k = bs := by
  have no : ∀ {t : TypeId} {xs : Array Value}, Bx w k t xs → False := fun {t xs} hx => by
    have := ho.symm.trans hx
    simp only [Option.some.injEq] at this
    subst this
    cases hn
  rcases hk with rfl | rfl | rfl | hk | ⟨g, hg, hk | hk⟩
  · exact (no h.dk).elim
  · exact .inl rfl
  · exact .inr rfl
  · exact (no (h.fl k hk).1).elim
  · obtain ⟨cur, hc⟩ := row_typ (h.fl g hg).2.1 hk
    exact (no hc).elim
  · obtain ⟨cur, hc⟩ := row_typ (h.fl g hg).2.2 hk
    exact (no hc).elim
theorem Pl.mono {q : Nat} {ps : List Int} {T' : Nat → Prop} (h : Pl w q ps T) (hT : ∀ x, T' x → T x) : Pl w q ps T' := by
  obtain ⟨a, n, c, X, H, n1, n2⟩ := h
  exact ⟨a, n, c, X, H, fun e => n1 (hT _ e), fun hp k hk e => n2 hp k hk (hT _ e)⟩
theorem Pl.cells {q k : Nat} {ps : List Int} {o : Obj} (h : Pl w q ps T) (hk : k = q) (ho : w.heap[k]? = some o) (hn : o.isCells = false) : False := by
  obtain ⟨a, n, c, X, _⟩ := h
  subst hk
  have := ho.symm.trans X
  simp only [Option.some.injEq] at this
  subst this
  cases hn
/-- The picks stay, where no cells are turned. -/
theorem Pl.own {q : Nat} {ps : List Int} {row : Option Nat} (h : Pl w q ps T) (hg : w.grownBy w' row) (hr : ∀ r, row = some r → ∃ o : Obj, w.heap[r]? = some o ∧ o.isCells = false) : Pl w' q ps T := by
  obtain ⟨a, n, c, X, H, n1, n2⟩ := h
  have bl : ∀ {k : Nat} {v : Value} {i : Nat}, w.cell? ⟨k, i, none⟩ = some v → k < w.heap.size → w'.heap[k]? = w.heap[k]? := fun {k v i} hc hk => hg.block k hk (fun e => by
    obtain ⟨o, ho, hn⟩ := hr k e.symm
    unfold World.cell? at hc
    simp only [ho] at hc
    cases o <;> simp_all [Obj.isCells])
  refine ⟨a, n, c, ?_, ⟨H.hlen, H.le, H.capb, H.nil, fun hp => ?_, H.ints⟩, n1, n2⟩
  · have := bl (X.cell 0) X.lt
    exact this.trans X
  · obtain ⟨b, off, e1, e2, e3⟩ := H.cells hp
    have hb := bl (e3 0 hp) e2
    refine ⟨b, off, e1, Nat.lt_of_lt_of_le e2 hg.size, fun i hi => ?_⟩
    rw [cell_eq hb]
    exact e3 i hi
theorem Dk.own (h : Dk w d m (Tt d bf bs m.ids V) bf bs V) {B : Nat} {row : Option Nat} (hf : bf < B) (hs : bs < B) (hg : w.grownBy w' row) (hr : ∀ r, row = some r → B ≤ r ∧ ∃ o : Obj, w.heap[r]? = some o ∧ o.isCells = false) : Dk w' d m (Tt d bf bs m.ids V) bf bs V :=
  h.kept (S := fun x => row = some x) ⟨hg.os, hg.tape, hg.output, hg.size, fun k hk hn => hg.block k hk (fun e => hn e.symm)⟩ (fun x e ht => by
    obtain ⟨h1, o, ho, hn⟩ := hr x e
    rcases h.cells ht ho hn with e | e <;> omega)
end
theorem gof_held {D : DataW Nat} {s : List UInt8} {g : Nat} (h : D.atKey (.string s) .nil = .held g) : gof D s = g := by unfold gof; rw [h]
/-- Each key of a directory is a name that it has. -/
theorem has_of_key {w : World} {b n : Nat} {D : DataW Nat} (h : w.ownsMap Try.prog 9 pe b n D) {s : List UInt8} (hs : s ∈ strKeys D) : Maps.has D (.string s) = true := by
  obtain ⟨es, rfl, hk⟩ := h.keysOf
  obtain ⟨p, hp, rfl⟩ := List.mem_map.1 hs
  obtain ⟨v, hv⟩ := hk p hp
  obtain ⟨x, _, hx, _⟩ := Maps.keyOf_str Try.underlying9 hv
  rw [has_eq, List.any_eq_true]
  exact ⟨p, hp, by rw [hx]; simp [Lit.sameKey, strOf]⟩
/-- A name with a file. -/
abbrev Nm (D : DataW Nat) := { s : List UInt8 // s.length ≤ maxLen ∧ ∃ g, D.atKey (.string s) .nil = .held g }
theorem names_are {w : World} {b n : Nat} {D : DataW Nat} (h : w.ownsMap Try.prog 9 pe b n D) (hG : Gd D) : ∃ zs : List (Nm D), zs.map (·.1) = nms D := by
  have key : ∀ l : List (List UInt8), (∀ s ∈ l, s ∈ strKeys D) → ∃ zs : List (Nm D), zs.map (·.1) = l := by
    intro l
    induction l with
    | nil => intro _; exact ⟨[], rfl⟩
    | cons s l ih =>
      intro hl
      obtain ⟨zs, hz⟩ := ih (fun x hx => hl x (by simp [hx]))
      have hs := hl s (by simp)
      exact ⟨⟨s, strKeys_le h Try.underlying9 s hs, hG s (has_of_key h hs)⟩ :: zs, by simp [hz]⟩
  exact key _ (fun s hs => by
    unfold nms at hs
    exact (List.mergeSort_perm _ _).mem_iff.1 hs)
theorem nms_length {w : World} {b n : Nat} {D : DataW Nat} (h : w.ownsMap Try.prog 9 pe b n D) : (nms D).length ≤ n := by
  have h1 := h.size_le
  obtain ⟨es, rfl, hk⟩ := h.keysOf
  have : (nms (DataW.map es)).length = es.length := by simp [nms, strKeys]
  rw [this]
  exact h1
end Go.Proofs.Ytgbijkdfhkkieaa
