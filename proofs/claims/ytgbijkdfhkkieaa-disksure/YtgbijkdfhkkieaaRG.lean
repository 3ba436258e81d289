/-
  append of entries; the reference's SyncDir.
-/
import Derived.Test.YtgbijkdfhkkieaaRF
namespace Go.Proofs.Ytgbijkdfhkkieaa
open Go.RowKit Go.Maps Go.Lib
set_option linter.unusedVariables false
set_option linter.unusedSimpArgs false
theorem flatE_one (L : List Ent) : ∀ u ∈ flatE L, u.oneCell' = true := by
  induction L with
  | nil => intro u hu; cases hu
  | cons p L ih =>
    intro u hu
    simp only [flatE, List.mem_cons] at hu
    rcases hu with rfl | rfl | hu
    · rfl
    · rfl
    · exact ih u hu
theorem cells_of_hasE {w : World} {a : Option Addr} {n c : Nat} {L : List Ent} (h : HasE w a n c L) (hp : 0 < n) : ∃ b off, a = some ⟨b, off, none⟩ ∧ ∀ j u, (flatE L)[j]? = some u → w.cell? ((⟨b, off, none⟩ : Addr).add j) = some u := by
  obtain ⟨b, off, e1, e2, e3⟩ := h.cells hp
  refine ⟨b, off, e1, fun j u hj => ?_⟩
  have hl := h.hlen
  have hjl : j < L.length * 2 := by
    have := (List.getElem?_eq_some_iff.1 hj).1
    rwa [flatE_len] at this
  rw [add_plain]
  obtain ⟨g1, g2⟩ := flatE_get L (j / 2) (by omega)
  obtain ⟨f1, f2⟩ := e3 (j / 2) (by omega)
  rcases Nat.mod_two_eq_zero_or_one j with hm | hm
  · have ej : j / 2 * 2 = j := by omega
    rw [ej] at g1 f1
    rw [f1, ← g1, hj]
  · have ej : j / 2 * 2 + 1 = j := by omega
    rw [Nat.add_assoc, ej] at f2
    rw [ej] at g2
    rw [f2, ← g2, hj]
theorem wpList_appEs {w : World} {ops : Array Oper} {rest : List Oper} {o : Oper} {a : Act} {Q : Exit → Act → World → Prop} (hgd : o.guard = none) (s x : Operand)
    (ho : o.op = .call { callee := .builtin .append, args := #[s, x], argTypes := #[86, 86] })
    (base : Nat) (v : Value) (n : Nat) (L : List Ent) (hs : a.eval s = v) (hown : w.ownsRow base 105 2 v n (flatE L))
    (ax : Option Addr) (len cap : Nat) (M : List Ent) (hx : a.eval x = .slice ax len cap) (hh : HasE w ax len cap M)
    (hb : n + len ≤ 1099511627776) (hbase : base ≤ w.heap.size)
    (h : ∀ v' w', w'.ownsRow base 105 2 v' (n + len) (flatE (L ++ M)) → w.grownBy w' v.ownBlock → wpList Try.prog ops Q rest (a.put o.dst v') w') :
    wpList Try.prog ops Q (o :: rest) a w := by
  obtain ⟨i0, hi, hz0, hz1, hz2⟩ := info_parts105
  cases ax with
  | none =>
    have hc := hh.nil rfl
    have hl := hh.le
    subst hc
    obtain rfl : len = 0 := by omega
    obtain rfl : M = [] := List.eq_nil_of_length_eq_zero hh.hlen
    refine wpList_append_own_none hgd s x 86 ho base 105 i0 2 Try.underlying86 hi v n (flatE L) hs hown hx ?_
    exact h v w (by simpa using hown) (World.grownBy.refl w _)
  | some ad =>
    refine wpList_append_own w hgd s x 86 ho base 105 i0 (.agg #[.string ByteArray.empty, .int .i64 0]) 2 24 Try.underlying86 hi hz0 hz1 hz2 rfl (by decide) v n (flatE L) hs hown ad len cap (flatE M) hx
      (by rw [flatE_len, hh.hlen]) ?_ (flatE_one _) (by unfold maxLen; omega) (by omega) hbase ?_
    · intro j u hj
      by_cases hp : 0 < len
      · obtain ⟨b, off, e1, e3⟩ := cells_of_hasE hh hp
        cases e1
        exact e3 j u hj
      · obtain rfl : M = [] := List.eq_nil_of_length_eq_zero (by have := hh.hlen; omega)
        simp [flatE] at hj
    · intro v' w' h1 h2 _
      exact h v' w' (by rw [flatE_app]; exact h1) h2
section
variable {w : World} {y : Nat} {r : RM} {I : Nat → Prop} {vF vD vS : Value} {K : Nat}
/-- A new sure directory is stored. -/
theorem Rk.sur (h : Rk w y r I vF vD vS) {w1 : World} (hB : Below w.heap.size w w1) {a : Option Addr} {n c : Nat} {L : List Ent} (H : HasE w1 a n c L) (ho : ∀ k, (Value.slice a n c).ownBlock = some k → w.heap.size ≤ k ∧ k < w1.heap.size) (hx : ∀ e ∈ L, e.2 < r.F.length) :
    Rk (w1.setCell ⟨y, 4, none⟩ (.slice a n c)) y { r with S := L } (fun x => I x ∨ (w.heap.size ≤ x ∧ x < w1.heap.size)) vF vD (.slice a n c) ∧ But (fun x => x = y) w (w1.setCell ⟨y, 4, none⟩ (.slice a n c)) := by
  have h1 := h.below hB
  have b := but_setCell w1 y 4 (.slice a n c)
  have hsz : (w1.setCell ⟨y, 4, none⟩ (.slice a n c)).heap.size = w1.heap.size := by simp
  have hy : ∀ x, (I x ∨ (w.heap.size ≤ x ∧ x < w1.heap.size)) → ¬ x = y := by
    rintro x (hx | hx) rfl
    · exact h.iy hx
    · have := h.yb.lt; omega
  have bt := (But.of_below hB (fun x => x = y)).trans b (fun _ _ e => e)
  refine ⟨h.turn bt (h1.yb.set1 4 _) rfl (fun k e => .inl e) (fun k e => by
    rcases e with e | e
    · exact .inl e
    · exact .inr ⟨e.1, by rw [hsz]; exact e.2⟩) ((h1.dd.more (fun k e => .inl e)).but b hy) ((EntsEn H ho I).but b hy) h.xd hx, bt⟩
set_option maxHeartbeats 2000000 in
set_option maxRecDepth 100000 in
theorem rsyncdir_any (h : Rk w y r I vF vD vS) (hw : Rw2 r K) (hK : K ≤ 100000) : Calls Try.prog 54 #[ptr y] w (RRes w y (Ry y I vF) (K + 1)) := by
  obtain ⟨c0, c1, c2, c3, c4, c5, c6⟩ := h.cs
  cases hg : r.gone with
  | true =>
    rw [hg] at c6
    replace h := hide h
    go_enter Try.func54, Try.ntmps54
    go_wp2_with fail
    go_ret
    exact rres_same h.out hw _
  | false =>
    rw [hg] at c6
    go_enter Try.func54, Try.ntmps54
    go_wp2_with fail
    refine (rstep_any h (by have := hw.n; omega) hw.l).mono ?_
    rintro e w2 ⟨rfl, h2, b2⟩
    clear c0 c1 c2 c3 c4 c5 c6
    cases hl : r.lf != 0 with
    | false =>
      replace h2 := hide h2
      replace b2 := hide b2
      go_wp2_with fail
      go_ret
      exact rres_step h2.out hw b2.out _
    | true =>
      obtain ⟨e1, e2, e3, e4⟩ := rst_same r
      have BA : Below w2.heap.size w2 (w2.alloc (.cells #[] 105)) := (Below.refl _ w2).alloc (Nat.le_refl _) _
      obtain ⟨q0, q1, q2, q3, q4, q5, q6⟩ := (h2.below BA).cs
      obtain ⟨a, n, c, rfl, H, _⟩ := (h2.below BA).dd
      have hn := H.hlen
      rw [e2] at hn
      have hn2 : n ≤ 100000 := by have := hw.d; omega
      have O1 := hide (ownsE_nil w2 w2.heap.size (Nat.le_refl _))
      have hZ : Hid (w2.heap.size ≤ (w2.alloc (.cells #[] 105)).heap.size) := BA.size
      replace H := hide H
      replace BA := hide BA
      replace h2 := hide h2
      replace b2 := hide b2
      clear h
      go_wp2_with (first
        | (refine wpList_appEs rfl (.tmp 13) (.tmp 17) rfl w2.heap.size _ 0 [] rfl O1.out _ _ _ _ rfl H.out (by omega) hZ.out ?_
           intro v8 w3 O8 G8
           rw [Nat.zero_add, List.nil_append] at O8
           have B3 := hide (BA.out.grown G8 hZ.out (fun q e => (O1.out.lt q e).1))
           obtain ⟨a3, c3, e8, H3⟩ := hasE_of_owns O8
           subst e8
           have D4 := hide (h2.out.sur B3.out H3 (fun k hk => O8.lt k hk) (fun e he => h2.out.xd e he))
           have f4 := (h2.out.below B3.out).yb.fz 4
           obtain ⟨g0, g1, g2, g3, g4, g5, g6⟩ := (h2.out.below B3.out).cs
           clear O8 G8 H3 q0 q1 q2 q3 q4 q5 q6))
      go_ret
      refine ⟨0, _, _, rfl, ⟨_, _, _, _, D4.out.1, rfl⟩, ?_, (b2.out.trans D4.out.2 (fun _ _ e => e)).mono (fun x e => .inl e), ?_⟩
      · have := hw.step
        exact ⟨this.f, this.d, this.d, this.n, this.l⟩
      · rintro x (e | e | e | e)
        · exact .inl (.inl e)
        · exact .inl (.inr (.inl e))
        · exact .inl (.inr (.inr e))
        · exact .inr (Nat.le_trans b2.out.size e.1)
end
end Go.Proofs.Ytgbijkdfhkkieaa
