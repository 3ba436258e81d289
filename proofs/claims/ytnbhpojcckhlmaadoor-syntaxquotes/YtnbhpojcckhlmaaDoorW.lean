/-
  The chapter's example works.
-/
import Derived.Test.YtnbhpojcckhlmaaDoorV
namespace Go.Proofs.YtnbhpojcckhlmaaDoor
open Go.RowKit
set_option linter.unusedVariables false
set_option linter.unusedSimpArgs false

theorem ParseP.error {w w' : World} {s : ByteArray} {e : Ending} (h : ParseP w s e w') (hs : s.size ≤ 256) {p : Nat} (hp : look2 (parseM s) p = true) : Below w.heap.size w w' ∧ e = .returned (.tuple #[zeroRe, .int .i64 (p : Int), .int .i64 100]) := by
  obtain ⟨b, ⟨h1, _⟩ | ⟨_, ⟨q, h2, rfl⟩ | ⟨x, t, h2, _⟩⟩⟩ := h
  · omega
  · rw [h2] at hp
    have : q = p := by simpa [look2] using hp
    rw [this]
    exact ⟨b, rfl⟩
  · rw [h2] at hp; cases hp
/-- What is seen of the first text. -/
theorem ParseP.first {w w' : World} {e : Ending} (h : ParseP w tx1 e w') : Below w.heap.size w w' ∧ ∃ s b c k2 s2, e = .returned (.tuple #[reV 3 s (.slice (some ⟨b, 0, none⟩) 2 c) k2 s2, .int .i64 0, .int .i64 0]) ∧ b < w'.heap.size ∧ w'.cell? ⟨b, 8, none⟩ = some (.int .i64 4) ∧ w'.cell? ⟨b, 15, none⟩ = some (.int .i64 (-1)) := by
  have h0 := ex1
  obtain ⟨b, ⟨h1, _⟩ | ⟨_, ⟨q, h2, _⟩ | ⟨x, t, h2, rfl, T⟩⟩⟩ := h
  · exact absurd h1 (by decide)
  · rw [h2] at h0; cases h0
  · refine ⟨b, ?_⟩
    rw [h2] at h0
    obtain ⟨n, f⟩ := t
    cases f with
    | nil => cases h0
    | cons n1 k1 r => cases r with
      | nil => cases h0
      | cons m k2 r2 => cases r2 with
        | cons _ _ _ => cases h0
        | nil =>
          simp only [look1, Bool.and_eq_true, beq_iff_eq] at h0
          obtain ⟨⟨e1, e2⟩, e3⟩ := h0
          obtain ⟨v, zs, ex, o, p, v1, ys, z1, e4, o1, p1, kk1, v2, ys2, z2, e5, o2, p2, kk2, e6⟩ := T
          have e7 : ys2 = [] := e6
          subst e7
          subst e5
          have hz : zs[8]? = some (.int .i64 m.k) ∧ zs[15]? = some (.int .i64 m.mx) := by rw [e4]; exact ⟨rfl, rfl⟩
          rcases o.2 with ⟨_, h⟩ | ⟨g, cap, cur, hv, _, hg, _⟩
          · simp [Fo.len] at h
          · subst hv
            have c8 := o.cells (g := g) rfl 8 _ hz.1
            have c15 := o.cells (g := g) rfl 15 _ hz.2
            rw [add_plain, Nat.zero_add] at c8 c15
            rw [e2] at c8
            rw [e3] at c15
            refine ⟨n.s, g, cap, n.mn, n.mx, ?_, (Array.getElem?_eq_some_iff.1 hg).1, c8, c15⟩
            rw [ex]
            simp only
            rw [e1]
            rfl
set_option maxHeartbeats 8000000 in
theorem works_any (w : World) (hT : Tab w) : Calls Tryd.prog 8 #[] w fun e w' => e = .returned (.bool true) ∧ Below w.heap.size w w' := by
  go_enter Tryd.func8, Tryd.ntmps8
  go_wp2_with fail
  refine (parse_any tx1 w hT).mono ?_
  rintro e w1 P1
  obtain ⟨B1, s, b, c, k2, s2, rfl, hb, c8, c15⟩ := ParseP.first P1
  clear P1
  have hT1 := hT.below B1
  have hs1 := B1.size
  have H := St.start Nope w1
  go_wp2_with (first | (with_reducible refine at_alloc 28 ?_; refine wl_alloc28 H ?_; clear H; intro g1 w' H q1 q2) | (with_reducible refine at_store 28 ?_; refine wl_store28 0 H rfl rfl rfl rfl ?_; clear H; intro w' H))
  refine (parse_any tx2 _ (hT1.st H (fun h => h))).mono ?_
  rintro e w2 P2
  obtain ⟨B2, rfl⟩ := P2.error (by decide) ex2
  clear P2
  replace H := H.call B2 (Nat.le_refl _)
  unfold zeroRe
  go_wp2_with (first | (with_reducible refine at_alloc 28 ?_; refine wl_alloc28 H ?_; clear H; intro g2 w' H q1 q2) | (with_reducible refine at_store 28 ?_; refine wl_store28 0 H rfl rfl rfl rfl ?_; clear H; intro w' H))
  refine (parse_any tx3 _ (hT1.st H (fun h => h))).mono ?_
  rintro e w3 P3
  obtain ⟨B3, rfl⟩ := P3.error (by decide) ex3
  clear P3
  replace H := H.call B3 (Nat.le_refl _)
  unfold zeroRe
  go_wp2_with (first | (with_reducible refine at_alloc 28 ?_; refine wl_alloc28 H ?_; clear H; intro g3 w' H q1 q2) | (with_reducible refine at_store 28 ?_; refine wl_store28 0 H rfl rfl rfl rfl ?_; clear H; intro w' H; have cK := H.cell 2 0 rfl (v := .int .i64 3) rfl; have cL := H.cell 2 5 rfl (v := .slice (some ⟨b, 0, none⟩) 2 c) rfl; have d8 := (H.below.cell (p := ⟨b, 8, none⟩) hb).trans c8; have d15 := (H.below.cell (p := ⟨b, 15, none⟩) hb).trans c15))
  go_ret
  exact ⟨rfl, B1.trans (H.below.mono hs1)⟩

end Go.Proofs.YtnbhpojcckhlmaaDoor
