/-
  The reference's Remove, Rename.
-/
import Derived.Test.YtgbijkdfhkkieaaRD
namespace Go.Proofs.Ytgbijkdfhkkieaa
open Go.RowKit Go.Maps Go.Lib
set_option linter.unusedVariables false
set_option linter.unusedSimpArgs false

/-- Numbers of the reference's disk behind k acts. -/
structure Rw2 (r : RM) (k : Nat) : Prop where
  f : r.F.length ≤ k
  d : r.D.length ≤ k
  s : r.S.length ≤ k
  n : 0 ≤ r.dn ∧ r.dn ≤ k
  l : r.lf ≤ 9223372036854775807
theorem Rw2.mono {r : RM} {k j : Nat} (h : Rw2 r k) (hj : k ≤ j) : Rw2 r j := ⟨by have := h.f; omega, by have := h.d; omega, by have := h.s; omega, by have := h.n; omega, h.l⟩
theorem rst_same (r : RM) : (rst r).F = r.F ∧ (rst r).D = r.D ∧ (rst r).S = r.S ∧ (rst r).mx = r.mx := by
  unfold rst
  split <;> exact ⟨rfl, rfl, rfl, rfl⟩
theorem Rw2.step {r : RM} {k : Nat} (h : Rw2 r k) : Rw2 (rst r) (k + 1) := by
  obtain ⟨e1, e2, e3, _⟩ := rst_same r
  have h1 := h.f
  have h2 := h.d
  have h3 := h.s
  have h4 := h.n
  have h5 := h.l
  refine ⟨by rw [e1]; omega, by rw [e2]; omega, by rw [e3]; omega, ?_, ?_⟩
  · unfold rst; split <;> simp <;> omega
  · unfold rst; split
    · exact h5
    · simp only; split <;> omega
/-- How a call on the reference's disk ends. -/
def RRes (w : World) (y : Nat) (R : Nat → Prop) (k : Nat) (e : Ending) (w' : World) : Prop := ∃ q r' R', e = .returned (.int .i64 q) ∧ Ref w' y r' R' ∧ Rw2 r' k ∧ But R w w' ∧ ∀ x, R' x → R x ∨ w.heap.size ≤ x
theorem Ry.y {y : Nat} {I : Nat → Prop} {vF : Value} : Ry y I vF y := .inl rfl
/-- Nothing is turned. -/
theorem rres_same {w : World} {y : Nat} {r : RM} {I : Nat → Prop} {vF vD vS : Value} {k : Nat} (h : Rk w y r I vF vD vS) (hw : Rw2 r k) (q : Int) : RRes w y (Ry y I vF) (k + 1) (.returned (.int .i64 q)) w :=
  ⟨q, r, _, rfl, ⟨I, vF, vD, vS, h, rfl⟩, hw.mono (Nat.le_succ _), But.refl _ _, fun x hx => .inl hx⟩
/-- The power goes. -/
theorem rres_step {w w' : World} {y : Nat} {r : RM} {I : Nat → Prop} {vF vD vS : Value} {k : Nat} (h : Rk w' y (rst r) I vF vD vS) (hw : Rw2 r k) (hb : But (fun x => x = y) w w') (q : Int) : RRes w y (Ry y I vF) (k + 1) (.returned (.int .i64 q)) w' :=
  ⟨q, _, _, rfl, ⟨I, vF, vD, vS, h, rfl⟩, hw.step, hb.mono (fun x e => .inl e), fun x hx => .inl hx⟩
theorem EntsEn {w w' : World} {a : Option Addr} {n c : Nat} {L : List Ent} (H : HasE w' a n c L) (ho : ∀ k, (Value.slice a n c).ownBlock = some k → w.heap.size ≤ k ∧ k < w'.heap.size) (I : Nat → Prop) : En w' (fun x => I x ∨ (w.heap.size ≤ x ∧ x < w'.heap.size)) (.slice a n c) L :=
  ⟨a, n, c, rfl, H, fun _ k hk => .inr (ho k hk)⟩
section
variable {w : World} {y : Nat} {r : RM} {I : Nat → Prop} {vF vD vS : Value} {K : Nat}
/-- A new directory is stored. -/
theorem Rk.dir (h : Rk w y r I vF vD vS) {w1 : World} (hB : Below w.heap.size w w1) {a : Option Addr} {n c : Nat} {L : List Ent} (H : HasE w1 a n c L) (ho : ∀ k, (Value.slice a n c).ownBlock = some k → w.heap.size ≤ k ∧ k < w1.heap.size) (hx : ∀ e ∈ L, e.2 < r.F.length) :
    Rk (w1.setCell ⟨y, 3, none⟩ (.slice a n c)) y { r with D := L } (fun x => I x ∨ (w.heap.size ≤ x ∧ x < w1.heap.size)) vF (.slice a n c) vS ∧ But (fun x => x = y) w (w1.setCell ⟨y, 3, none⟩ (.slice a n c)) := by
  have h1 := h.below hB
  have b := but_setCell w1 y 3 (.slice a n c)
  have hsz : (w1.setCell ⟨y, 3, none⟩ (.slice a n c)).heap.size = w1.heap.size := by simp
  have hy : ∀ x, (I x ∨ (w.heap.size ≤ x ∧ x < w1.heap.size)) → ¬ x = y := by
    rintro x (hx | hx) rfl
    · exact h.iy hx
    · have := h.yb.lt; omega
  have bt := (But.of_below hB (fun x => x = y)).trans b (fun _ _ e => e)
  refine ⟨h.turn bt (h1.yb.set1 3 _) rfl (fun k e => .inl e) (fun k e => by
    rcases e with e | e
    · exact .inl e
    · exact .inr ⟨e.1, by rw [hsz]; exact e.2⟩) ((EntsEn H ho I).but b hy) ((h1.ss.more (fun k e => .inl e)).but b hy) hx h.xs, bt⟩
set_option maxHeartbeats 2000000 in
set_option maxRecDepth 100000 in
theorem rremove_any (h : Rk w y r I vF vD vS) (hw : Rw2 r K) (hK : K ≤ 100000) (s : ByteArray) : Calls Try.prog 53 #[ptr y, .string s] w (RRes w y (Ry y I vF) (K + 1)) := by
  have hD : r.D.length ≤ 1000000 := by have := hw.d; omega
  go_enter Try.func53, Try.ntmps53
  go_wp2_with fail
  refine (rfind_any h hD s).mono ?_
  rintro e w1 ⟨hw1, ⟨f, hf, rfl⟩ | ⟨q, hq, rfl⟩⟩
  · replace hw1 := hw1.symm; subst hw1
    go_wp2_with fail
    refine (rstep_any h (by have := hw.n; omega) hw.l).mono ?_
    rintro e w2 ⟨rfl, h2, b2⟩
    cases hl : r.lf != 0 with
    | false =>
      replace h2 := hide h2
      replace b2 := hide b2
      go_wp2_with fail
      go_ret
      exact rres_step h2.out hw b2.out _
    | true =>
      obtain ⟨e1, e2, e3, e4⟩ := rst_same r
      obtain ⟨c0, c1, c2, c3, c4, c5, c6⟩ := h2.cs
      obtain ⟨a, n, c, rfl, H, _⟩ := h2.dd
      have hn := H.hlen
      rw [e2] at hn
      have f3 := h2.yb.fz 3
      replace h2 := hide h2
      replace b2 := hide b2
      go_wp2_with fail
      refine (without_any H (by omega) s).mono ?_
      rintro e w3 ⟨a3, n3, c3', L3, rfl, H3, hm3, hn3, B3, ho3⟩
      obtain ⟨D4, b4⟩ := h2.out.dir B3 H3 ho3 (fun e he => h2.out.xd e (hm3 e he))
      have f4 := (h2.out.below B3).yb.fz 3
      obtain ⟨g0, g1, g2, g3, g4, g5, g6⟩ := (h2.out.below B3).cs
      have hs2 : Hid (w.heap.size ≤ w2.heap.size) := b2.out.size
      have b5 : Hid (But (fun x => x = y) w (w3.setCell ⟨y, 3, none⟩ (.slice a3 n3 c3'))) := b2.out.trans b4 (fun _ _ e => e)
      replace D4 := hide D4
      have hl3 : Hid (L3.length ≤ K) := by
        show L3.length ≤ K
        have := H3.hlen
        have := hw.d
        omega
      clear H H3 hm3 B3 ho3 b4 c0 c1 c2 c3 c4 c5 c6 f3
      go_wp2_with fail
      go_ret
      refine ⟨0, _, _, rfl, ⟨_, _, _, _, D4.out, rfl⟩, ?_, b5.out.mono (fun x e => .inl e), ?_⟩
      · have := hw.step
        exact ⟨this.f, by have := hl3.out; show L3.length ≤ _; omega, this.s, this.n, this.l⟩
      · rintro x (e | e | e | e)
        · exact .inl (.inl e)
        · exact .inl (.inr (.inl e))
        · exact .inl (.inr (.inr e))
        · exact .inr (Nat.le_trans hs2.out e.1)
  · replace hw1 := hw1.symm; subst hw1
    have q1 : (q != 0) = true := by simpa using hq
    have q2 : (q == 0) = false := by simpa using hq
    replace hq := hide hq
    replace h := hide h
    go_wp2_with fail
    go_ret
    exact rres_same h.out hw _
end
end Go.Proofs.Ytgbijkdfhkkieaa
