/-
  The program's index in memory: a map of lists; what a store and a delete make of it.
-/
import Derived.Test.YthkfbdcocnhebaaZg
import Derived.Test.YthkfbdcocnhebaaX
import Derived.Test.YthkfbdcocnhebaaL
import Derived.Maps.OwnSet
import Derived.Maps.RangeWalk
import Derived.Maps.Ext
namespace Go.Proofs.Ythkfbdcocnhebaa
open Go.RowKit Go.Maps Go.WideMaps
set_option linter.unusedVariables false
set_option linter.unusedSimpArgs false

/-- A list in a map reads as its slice. -/
def sv : Value → Option (DataW Value × List MemPlace)
  | .slice a n c => some (.held (.slice a n c), [])
  | _ => none
theorem sv_slice (a : Option Addr) (n c : Nat) : sv (.slice a n c) = some (.held (.slice a n c), []) := rfl
theorem sv_inv {v : Value} {z : DataW Value × List MemPlace} (h : sv v = some z) : ∃ a n c, v = .slice a n c ∧ z = (.held (.slice a n c), []) := by
  unfold sv at h
  split at h
  · cases h; exact ⟨_, _, _, rfl, rfl⟩
  · cases h
theorem mlaw : Keyed Try.prog 9 := string_keyed Try.underlying9
theorem zero23 (w : World) : (zeroValue 23).run Try.prog w = .ok (.slice none 0 0) w := by kernel_rfl
abbrev nilS : Value := .slice none 0 0
abbrev mkey (s : Str) : Lit := .string s.data.toList
theorem hmkey {s : Str} (h : s.size ≤ maxLen) : keyOf Try.prog 9 (.string s) = some (mkey s) := keyOf_string_mk Try.underlying9 h
theorem mkey_inj {s t : Str} (h : mkey s = mkey t) : s = t := by
  cases s; cases t
  simpa [mkey] using h
theorem mkey_is (s : Str) : WideAt.IsKeyLit (mkey s) := trivial
/-- What stands at a key. -/
def atv (D : DataW Value) (s : Str) : Value := match D.atKey (mkey s) (.held nilS) with
  | .held v => v
  | _ => nilS
theorem look {w : World} {b n : Nat} {D : DataW Value} (h : w.ownsMap Try.prog 9 sv b n D) {s : Str} (hs : s.size ≤ maxLen) :
    ∃ a m c, atv D s = .slice a m c ∧ (Instr.lookup 66 (.map (some b)) (.string s) false).run Try.prog w = .ok (.slice a m c) w := by
  obtain ⟨v, ps, hrun, hv⟩ := h.lookup mlaw Try.underlying66 (zero23 w) (sv_slice none 0 0) (hmkey hs)
  obtain ⟨a, m, c, rfl, e⟩ := sv_inv hv
  refine ⟨a, m, c, ?_, hrun⟩
  unfold atv
  have e1 : D.atKey (mkey s) (.held nilS) = .held (.slice a m c) := congrArg Prod.fst e
  rw [e1]
def upd {α : Type} (f : Str → α) (s : Str) (x : α) : Str → α := fun t => if t = s then x else f t
theorem upd_same {α : Type} (f : Str → α) (s : Str) (x : α) : upd f s x s = x := if_pos rfl
theorem upd_ne {α : Type} (f : Str → α) (s : Str) (x : α) {t : Str} (h : t ≠ s) : upd f s x t = f t := if_neg h
theorem atv_put {D : DataW Value} (hm : IsMap D) (s t : Str) (v : Value) : atv (D.put (mkey s) (.held v)) t = if t = s then v else atv D t := by
  by_cases h : t = s
  · subst h
    unfold atv
    rw [if_pos rfl, atKey_put_same hm (mkey_is t)]
  · have hk : mkey t ≠ mkey s := fun e => h (mkey_inj e)
    unfold atv
    rw [if_neg h, atKey_put_other hk]
theorem atv_del {D : DataW Value} (s t : Str) : atv (D.del (mkey s)) t = if t = s then nilS else atv D t := by
  by_cases h : t = s
  · subst h
    unfold atv
    rw [if_pos rfl, atKey_del_same]
  · have hk : mkey t ≠ mkey s := fun e => h (mkey_inj e)
    unfold atv
    rw [if_neg h, atKey_del_other hk]

/-- Block b is a map of lists: at each key the numbers f, there if g says so; T: the map's block and its rows. -/
structure Lp (w : World) (b n : Nat) (D : DataW Value) (T : Nat → Prop) (f : Str → List Int) (g : Str → Bool) : Prop where
  map : w.ownsMap Try.prog 9 sv b n D
  own : ∀ s, s.size ≤ maxLen → w.ownsRow 0 24 1 (atv D s) (f s).length ((f s).map (Value.int .u64))
  rng : ∀ s, s.size ≤ maxLen → ∀ x ∈ f s, 0 ≤ x ∧ x < 18446744073709551616
  has : ∀ s, s.size ≤ maxLen → Maps.has D (mkey s) = g s
  apart : ∀ s t, s.size ≤ maxLen → t.size ≤ maxLen → s ≠ t → (atv D s).ownBlock = none ∨ (atv D s).ownBlock ≠ (atv D t).ownBlock
  tb : T b
  tr : ∀ s, s.size ≤ maxLen → ∀ q, (atv D s).ownBlock = some q → T q
  tl : ∀ q, T q → q < w.heap.size
section
variable {w w' : World} {b n : Nat} {D : DataW Value} {T : Nat → Prop} {f : Str → List Int} {g : Str → Bool}
theorem Lp.congr {f' : Str → List Int} {g' : Str → Bool} (h : Lp w b n D T f g) (hf : ∀ s, s.size ≤ maxLen → f s = f' s) (hg : ∀ s, s.size ≤ maxLen → g s = g' s) : Lp w b n D T f' g' :=
  ⟨h.map, fun s hs => by rw [← hf s hs]; exact h.own s hs, fun s hs => by rw [← hf s hs]; exact h.rng s hs, fun s hs => (h.has s hs).trans (hg s hs), h.apart, h.tb, h.tr, h.tl⟩
/-- A row is no map. -/
theorem row_ne_map {v : Value} {k : Nat} {xs : List Value} {q : Nat} (hm : w.ownsMap Try.prog 9 sv b n D) (ho : w.ownsRow 0 24 1 v k xs) (hq : v.ownBlock = some q) : q ≠ b := fun e => by
  subst e
  obtain ⟨es, clock, hb, _⟩ := hm
  rcases ho.2 with ⟨rfl, _⟩ | ⟨g, cap, cur, rfl, _, hg, _⟩
  · cases hq
  · cases hq
    rw [hb] at hg
    cases hg
theorem Lp.kept (h : Lp w b n D T f g) (hb : But (fun q => ¬ T q) w w') : Lp w' b n D T f g := by
  have hk : ∀ q, T q → w'.heap[q]? = w.heap[q]? := fun q hq => hb.block q (h.tl q hq) (fun hn => hn hq)
  refine ⟨?_, fun s hs => ?_, h.rng, h.has, h.apart, h.tb, h.tr, fun q hq => Nat.lt_of_lt_of_le (h.tl q hq) hb.size⟩
  · obtain ⟨es, clock, h1, h2, h3, h4⟩ := h.map
    exact ⟨es, clock, (hk b h.tb).trans h1, h2, h3, h4⟩
  · obtain ⟨h1, h2⟩ := h.own s hs
    refine ⟨h1, ?_⟩
    rcases h2 with h2 | ⟨q, cap, cur, e1, e2, e3, e4⟩
    · exact .inl h2
    · exact .inr ⟨q, cap, cur, e1, e2, (hk q (h.tr s hs q (by rw [e1]; rfl))).trans e3, e4⟩
theorem Lp.hasU (h : Lp w b n D T f g) {s : Str} (hs : s.size ≤ maxLen) : ∃ a c, atv D s = .slice a (f s).length c ∧ HasU w a (f s).length c (f s) := by
  obtain ⟨a, c, h1, h2⟩ := hasU_of_owns (h.own s hs) (h.rng s hs)
  exact ⟨a, c, h1, h2⟩
/-- 'm[s] = v': v owns l, in the elder row of s or in a new one. -/
theorem Lp.put (h : Lp w b n D T f g) {s : Str} (hs : s.size ≤ maxLen) {w1 : World} {v : Value} {l : List Int} (hg : w.grownBy w1 (atv D s).ownBlock) (ho : w1.ownsRow 0 24 1 v l.length (l.map (Value.int .u64))) (hr : ∀ x ∈ l, 0 ≤ x ∧ x < 18446744073709551616)
    (hl : v.ownBlock = (atv D s).ownBlock ∨ ∃ q, v.ownBlock = some q ∧ w.heap.size ≤ q) (hn : n < maxLen) :
    ∃ w2, (Instr.mapUpdate 66 (.map (some b)) (.string s) v).run Try.prog w1 = .ok () w2 ∧ Lp w2 b (n + 1) (D.put (mkey s) (.held v)) (fun q => T q ∨ v.ownBlock = some q) (upd f s l) (upd g s true) ∧ w1.grownBy w2 (some b) ∧ atv (D.put (mkey s) (.held v)) s = v := by
  have hbs : some b ≠ (atv D s).ownBlock := fun e => row_ne_map h.map (h.own s hs) e.symm rfl
  have hm1 := h.map.kept hg hbs
  obtain ⟨a, m, c, rfl⟩ : ∃ a m c, v = .slice a m c := by
    rcases ho.2 with ⟨rfl, _⟩ | ⟨q, cap, cur, rfl, _⟩
    · exact ⟨_, _, _, rfl⟩
    · exact ⟨_, _, _, rfl⟩
  obtain ⟨w2, hrun, hm2, hg2⟩ := hm1.update mlaw Try.underlying66 hn (hmkey hs) (sv_slice a m c)
  generalize hv : Value.slice a m c = v at *
  have hp := atv_put h.map.isMap s (v := v)
  refine ⟨w2, hrun, ⟨hm2, fun t ht => ?_, fun t ht => ?_, fun t ht => ?_, fun t u ht hu hne => ?_, .inl h.tb, fun t ht q hq => ?_, fun q hq => ?_⟩, hg2, by rw [hp, if_pos rfl]⟩
  · rw [hp]
    by_cases e : t = s
    · subst e
      rw [if_pos rfl, upd_same]
      exact ho.kept hg2 (by
        cases e : v.ownBlock with
        | none => exact .inl rfl
        | some q => exact .inr (fun e2 => row_ne_map hm1 ho e (Option.some.inj e2)))
    · rw [if_neg e, upd_ne _ _ _ e]
      have h1 := (h.own t ht).kept hg (h.apart t s ht hs e)
      exact h1.kept hg2 (by
        cases e : (atv D t).ownBlock with
        | none => exact .inl rfl
        | some q => exact .inr (fun e2 => row_ne_map hm1 h1 e (Option.some.inj e2)))
  · by_cases e : t = s
    · subst e; rw [upd_same]; exact hr
    · rw [upd_ne _ _ _ e]; exact h.rng t ht
  · by_cases e : t = s
    · subst e; rw [upd_same]; exact has_put_same h.map.isMap (mkey_is t) _
    · rw [upd_ne _ _ _ e, has_put_other (fun e2 => e (mkey_inj e2))]; exact h.has t ht
  · have new_far : ∀ t, t.size ≤ maxLen → t ≠ s → (atv D t).ownBlock = none ∨ (atv D t).ownBlock ≠ v.ownBlock := fun t ht hne => by
      rcases hl with e | ⟨q, e, hq⟩
      · rw [e]; exact h.apart t s ht hs hne
      · cases e2 : (atv D t).ownBlock with
        | none => exact .inl rfl
        | some r =>
          have := h.tl r (h.tr t ht r e2)
          exact .inr (fun e3 => by rw [e] at e3; cases e3; omega)
    rw [hp, hp]
    by_cases e : t = s
    · subst e
      rw [if_pos rfl, if_neg (fun e => hne e.symm)]
      rcases new_far u hu (fun e => hne e.symm) with h1 | h1
      · cases e : v.ownBlock with
        | none => exact .inl rfl
        | some q => exact .inr (fun e2 => by rw [h1] at e2; cases e2)
      · exact .inr (fun e2 => h1 e2.symm)
    · rw [if_neg e]
      by_cases e2 : u = s
      · rw [if_pos e2]; exact new_far t ht e
      · rw [if_neg e2]; exact h.apart t u ht hu hne
  · rw [hp] at hq
    by_cases e : t = s
    · rw [if_pos e] at hq; exact .inr hq
    · rw [if_neg e] at hq; exact .inl (h.tr t ht q hq)
  · rcases hq with hq | hq
    · exact Nat.lt_of_lt_of_le (h.tl q hq) (Nat.le_trans hg.size hg2.size)
    · exact Nat.lt_of_lt_of_le (ho.lt q hq).2 hg2.size
/-- 'delete(m, s)'. -/
theorem Lp.del (h : Lp w b n D T f g) {s : Str} (hs : s.size ≤ maxLen) (ty : TypeId) :
    ∃ w2, (Builtin.delete_ #[66, 9] ty #[.map (some b), .string s]).run Try.prog w = .ok (.tuple #[]) w2 ∧ Lp w2 b n (D.del (mkey s)) T (upd f s []) (upd g s false) ∧ w.grownBy w2 (some b) := by
  obtain ⟨w2, hrun, hm2, ht2⟩ := h.map.drop mlaw Try.underlying66 (hmkey hs) ty
  have hg2 := ht2.grown
  have hp := atv_del (D := D) s
  refine ⟨w2, hrun, ⟨hm2, fun t ht => ?_, fun t ht => ?_, fun t ht => ?_, fun t u ht hu hne => ?_, h.tb, fun t ht q hq => ?_, fun q hq => Nat.lt_of_lt_of_le (h.tl q hq) hg2.size⟩, hg2⟩
  · rw [hp]
    by_cases e : t = s
    · subst e
      rw [if_pos rfl, upd_same]
      exact World.ownsRow_nil _ _ _ _
    · rw [if_neg e, upd_ne _ _ _ e]
      exact (h.own t ht).kept hg2 (by
        cases e : (atv D t).ownBlock with
        | none => exact .inl rfl
        | some q => exact .inr (fun e2 => row_ne_map h.map (h.own t ht) e (Option.some.inj e2)))
  · by_cases e : t = s
    · subst e; rw [upd_same]; intro x hx; simp at hx
    · rw [upd_ne _ _ _ e]; exact h.rng t ht
  · by_cases e : t = s
    · subst e; rw [upd_same]; exact has_del_same
    · rw [upd_ne _ _ _ e, has_del_other (fun e2 => e (mkey_inj e2))]; exact h.has t ht
  · rw [hp, hp]
    by_cases e : t = s
    · rw [if_pos e]; exact .inl rfl
    · rw [if_neg e]
      by_cases e2 : u = s
      · rw [if_pos e2]
        cases e3 : (atv D t).ownBlock with
        | none => exact .inl rfl
        | some q => exact .inr (fun e4 => by cases e4)
      · rw [if_neg e2]; exact h.apart t u ht hu hne
  · rw [hp] at hq
    by_cases e : t = s
    · rw [if_pos e] at hq; cases hq
    · rw [if_neg e] at hq; exact h.tr t ht q hq
end
end Go.Proofs.Ythkfbdcocnhebaa
