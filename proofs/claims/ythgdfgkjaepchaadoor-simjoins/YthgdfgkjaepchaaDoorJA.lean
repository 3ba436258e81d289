/-
  What SimJoins is about: two patterns one behind the other, one of two, one repeated; whether a pattern's program accepts a text.
-/
import Derived.Test.YthgdfgkjaepchaaDoorKX
namespace Go.Proofs.YthgdfgkjaepchaaDoor
open Go.RowKit
set_option linter.unusedVariables false
set_option linter.unusedSimpArgs false

theorem argR_kept {w w' : World} (hb : Below w.heap.size w w') : ∀ {d : Nat} {cs : List Value}, ArgR w d cs → ArgR w' d cs
  | 0, _, h => h
  | d + 1, cs, ⟨k, s, a, n, c, mn, mx, e, ho, h1, h2⟩ => ⟨k, s, a, n, c, mn, mx, e, ho, h1, fun hp => by
      obtain ⟨b, off, e1, e2, e3⟩ := h2 hp
      refine ⟨b, off, e1, by have := hb.size; omega, fun i hi => ?_⟩
      obtain ⟨cs', f1, f2, f3⟩ := e3 i hi
      exact ⟨cs', f1, fun j u hj => (hb.cell (p := ⟨b, off + i * 8 + j, none⟩) e2).trans (f2 j u hj), argR_kept hb f3⟩⟩
/-- Two patterns as members of one of Kind k. -/
def two (k : Int) (t1 t2 : Tr) : Tr := (⟨k, noSet, 0, 0⟩, .cons t1.1 t1.2 (.cons t2.1 t2.2 .nil))
def stT (t : Tr) : Tr := (⟨4, noSet, 0, -1⟩, .cons t.1 t.2 .nil)
theorem two_fit {k : Int} (hk : k = 2 ∨ k = 3) {t1 t2 : Tr} (h1 : fitT t1) (h2 : fitT t2) : fitT (two k t1 t2) :=
  ⟨⟨fun _ => rfl, fun h => by simp only [two] at h; omega, fun _ => ⟨rfl, rfl⟩, .inr (by rcases hk with h | h; exact .inl h; exact .inr (.inl h))⟩, h1.1, h1.2, h2.1, h2.2, trivial⟩
theorem st_fit {t : Tr} (h : fitT t) : fitT (stT t) := ⟨⟨fun _ => rfl, fun _ => ⟨rfl, (by decide : arT 0 (-1) = true)⟩, fun h => absurd rfl h, .inr (.inr (.inr rfl))⟩, h.1, h.2, trivial⟩
theorem two_ok {k : Int} {t1 t2 : Tr} (h1 : okT t1) (h2 : okT t2) : okT (two k t1 t2) := ⟨noSet_ok, h1.1, h1.2, h2.1, h2.2, trivial⟩
theorem st_ok {t : Tr} (h : okT t) : okT (stT t) := ⟨noSet_ok, h.1, h.2, trivial⟩
theorem me_both (t1 t2 : Tr) (s : List Nat) : meT (two 2 t1 t2) s ↔ cat (meT t1) (meT t2) s := by
  have h : meT (two 2 t1 t2) s ↔ cat (meT t1) (cat (meT t2) eps) s := Iff.rfl
  rw [h]
  constructor
  · rintro ⟨u, v, e, h1, h2⟩; exact ⟨u, v, e, h1, (cat_eps _ v).1 h2⟩
  · rintro ⟨u, v, e, h1, h2⟩; exact ⟨u, v, e, h1, (cat_eps _ v).2 h2⟩
theorem me_either (t1 t2 : Tr) (s : List Nat) : meT (two 3 t1 t2) s ↔ meT t1 s ∨ meT t2 s := by
  have h : meT (two 3 t1 t2) s ↔ orM [meT t1, meT t2] s := Iff.rfl
  rw [h]
  simp [orM]
theorem me_star (t : Tr) (s : List Nat) : meT (stT t) s ↔ ∃ r, powM (meT t) r s := by
  have h : meT (stT t) s ↔ repM (meT t) 0 (-1) s := Iff.rfl
  rw [h]
  constructor
  · rintro ⟨r, _, _, h⟩; exact ⟨r, h⟩
  · rintro ⟨r, h⟩; exact ⟨r, Nat.zero_le _, .inl rfl, h⟩
theorem pow_cut (M : Lg) : ∀ (r : Nat) (s : List Nat), powM M r s → s = [] ∨ ∃ u v, s = u ++ v ∧ u ≠ [] ∧ M u ∧ ∃ q, powM M q v
  | 0, s, h => .inl h
  | r + 1, s, ⟨u, v, e, h1, h2⟩ => by
    cases u with
    | nil => rw [List.nil_append] at e; subst e; exact pow_cut M r _ h2
    | cons b u => exact .inr ⟨b :: u, v, e, by simp, h1, r, h2⟩
/-- One repeated: it is empty, or can be cut in one that is not empty and one that is so repeated. -/
theorem me_again (t : Tr) (s : List Nat) : meT (stT t) s ↔ s = [] ∨ ∃ i, 0 < i ∧ i ≤ s.length ∧ meT t (s.take i) ∧ meT (stT t) (s.drop i) := by
  rw [me_star]
  constructor
  · rintro ⟨r, h⟩
    rcases pow_cut _ r s h with h | ⟨u, v, rfl, hn, h1, h2⟩
    · exact .inl h
    · refine .inr ⟨u.length, List.length_pos_iff.2 hn, by simp, by simpa using h1, ?_⟩
      rw [me_star]
      simpa using h2
  · rintro (rfl | ⟨i, h0, h1, h2, h3⟩)
    · exact ⟨0, rfl⟩
    · rw [me_star] at h3
      obtain ⟨r, h3⟩ := h3
      exact ⟨r + 1, s.take i, s.drop i, (List.take_append_drop i s).symm, h2, h3⟩
theorem cat_cut (M N : Lg) (s : List Nat) : cat M N s ↔ ∃ i, i ≤ s.length ∧ M (s.take i) ∧ N (s.drop i) := by
  constructor
  · rintro ⟨u, v, rfl, h1, h2⟩; exact ⟨u.length, by simp, by simpa using h1, by simpa using h2⟩
  · rintro ⟨i, _, h1, h2⟩; exact ⟨_, _, (List.take_append_drop i s).symm, h1, h2⟩
set_option maxHeartbeats 2000000 in
set_option maxRecDepth 100000 in
/-- matches, of a pattern that may be and is not too great. -/
theorem matches_T (t : Tr) (hf : fitT t) (ho : okT t) (hn : (prg t).n ≤ 2048) (hz : szT t ≤ 4096) (hd : dpT t ≤ 128) (P : Nat → Prop) (u : Value) (s : ByteArray) (hs : s.size ≤ 65536) (w : World) (hT : Tab w) (T : TrV w P (reV t.1.k t.1.s u t.1.mn t.1.mx) t) :
    Calls Tryd.prog 17 #[reV t.1.k t.1.s u t.1.mn t.1.mx, .string s] w fun e w' => Below w.heap.size w w' ∧ ∃ x : Bool, e = .returned (.bool x) ∧ (x = true ↔ meT t (bys s)) := by
  have H := St.start Nope w
  have hTH := hide hT
  replace T := hide T
  replace hf := hide hf
  replace ho := hide ho
  clear hT
  go_enter Tryd.func17, Tryd.ntmps17
  go_wp2_with (first | ((with_reducible refine at_box 27 ?_); refine wl_box28 H rfl ?_; clear H; intro g2 w1 H q1 q2) | ((with_reducible refine at_load 27 ?_); refine wl_load28 0 H rfl rfl ?_))
  have hb1 := H.below
  refine (make_ok t _ _ w1 (T.out.kept (fun k _ hk => hb1.block k hk)) hf.out hz hd).mono ?_
  rintro e w3 ⟨B3, ⟨h3, _⟩ | ⟨_, v, rfl, R3, _⟩⟩
  · omega
  · replace H := H.call B3 (Nat.le_refl _)
    have hb3 := hide H.below
    have hm := hide (match_T t hf.out ho.out hn v s hs w3 (hTH.out.below hb3.out) R3)
    replace R3 := hide R3
    clear H hb1 B3
    go_wp2_with fail
    refine hm.out.mono ?_
    rintro e w4 ⟨B4, x, rfl, hx⟩
    replace hx := hide hx
    replace B4 := hide B4
    go_wp2_with fail
    go_ret
    exact ⟨hb3.out.trans (B4.out.mono hb3.out.size), x, rfl, hx.out⟩
end Go.Proofs.YthgdfgkjaepchaaDoor
