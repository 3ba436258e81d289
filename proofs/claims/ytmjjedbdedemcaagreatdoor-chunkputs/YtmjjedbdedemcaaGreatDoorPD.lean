/-
  ChunkPuts: both Puts of the same samples; the builder's end; what holds between rounds.
-/
import Derived.Test.YtmjjedbdedemcaaGreatDoorPC
namespace Go.Proofs.YtmjjedbdedemcaaGreatDoor
open Go.RowKit
set_option linter.unusedVariables false
set_option linter.unusedSimpArgs false

/-- Bytes of which P holds come out, and an error. -/
def Res (w : World) (er : Int) (P : List Int → Prop) (e : Ending) (w' : World) : Prop := ∃ (bs : List Int) (a : Option Addr) (n cap : Nat), P bs ∧ e = .returned (.tuple #[.slice a n cap, .int .i64 er]) ∧ Has w' a n cap bs ∧ Below w.heap.size w w'
theorem res_nil {w w' : World} {er : Int} (h : Below w.heap.size w w') : Res w er (fun bs => bs = []) (.returned (.tuple #[.slice none 0 0, .int .i64 er])) w' := ⟨[], none, 0, 0, rfl, rfl, has_nil w', h⟩
theorem puts_both (n : Nat) (L : List Smp) (hn : L.length = n) (hv : ∀ s ∈ L, s.2 < 18446744073709551616) : ∃ (er : Int) (P : List Int → Prop), (∀ x y, P x → P y → x = y) ∧ (∀ w a cap, HasS w a n cap L → Tabs w → Calls Tryz.prog 6 #[.slice a n cap] w (Res w er P)) ∧ (∀ w a cap, HasS w a n cap L → Calls Tryz.prog 7 #[.slice a n cap] w (Res w er P)) := by
  obtain ⟨ss, h1, h2, h3, h4⟩ := far L z0 hv
  rw [hn] at h1 h4
  by_cases h120 : n ≤ 120
  · have hc := fun w a cap (h : HasS w a n cap L) hT => cPut_any w a n cap L h hT h120 ss h1 h2 h3 h4
    have hr := fun w a cap (h : HasS w a n cap L) => rPut_any w a n cap L h h120 ss h1 h2 h3 h4
    by_cases h0 : n = 0
    · refine ⟨2, fun bs => bs = [], fun x y hx hy => hx.trans hy.symm, fun w a cap h hT => (hc w a cap h hT).mono ?_, fun w a cap h => (hr w a cap h).mono ?_⟩ <;>
      · rintro e w' ⟨⟨_, hl, _⟩ | ⟨_, rfl⟩ | ⟨hl, _⟩, B⟩
        · omega
        · exact res_nil B
        · omega
    · by_cases hs : ss.length = n
      · refine ⟨0, fun bs => IsC ss bs, fun x y hx hy => hx.same hy, fun w a cap h hT => (hc w a cap h hT).mono ?_, fun w a cap h => (hr w a cap h).mono ?_⟩ <;>
        · rintro e w' ⟨⟨_, _, c, a', n', cap', hI, rfl, H⟩ | ⟨hl, _⟩ | ⟨hl, _⟩, B⟩
          · exact ⟨c, a', n', cap', hI, rfl, H, B⟩
          · omega
          · omega
      · refine ⟨60, fun bs => bs = [], fun x y hx hy => hx.trans hy.symm, fun w a cap h hT => (hc w a cap h hT).mono ?_, fun w a cap h => (hr w a cap h).mono ?_⟩ <;>
        · rintro e w' ⟨⟨hl, _⟩ | ⟨hl, _⟩ | ⟨_, rfl⟩, B⟩
          · omega
          · omega
          · exact res_nil B
  · refine ⟨4, fun bs => bs = [], fun x y hx hy => hx.trans hy.symm, fun w a cap h hT => (cPut_full w a n cap (by omega)).mono ?_, fun w a cap h => (rPut_full w a n cap (by omega)).mono ?_⟩ <;>
    · rintro e w' ⟨rfl, rfl⟩
      exact res_nil (Below.refl _ _)
theorem ends_both (acc : List Sm) (hok : OkL z0 acc) (hl : acc.length ≤ 120) : ∃ (er : Int) (P : List Int → Prop), (∀ x y, P x → P y → x = y) ∧ (∀ w base q p v, Bd w base q p v (fin z0 acc) (eX z0 acc) (eN z0 acc) → Tabs w → Calls Tryz.prog 12 #[.pointer (some ⟨q, 0, none⟩)] w (Res w er P)) ∧ (∀ w a cap, HasS w a acc.length cap (acc.map up) → Calls Tryz.prog 7 #[.slice a acc.length cap] w (Res w er P)) := by
  have hr := fun w a cap (h : HasS w a acc.length cap (acc.map up)) => rPut_any w a acc.length cap (acc.map up) h hl acc (Nat.le_refl _) (fun i hi => map_getD acc i hi) hok (fun h => by omega)
  have hfn : (fin z0 acc).n = acc.length := by rw [fin_n]; simp [z0]
  have hN := eN_le acc z0 ok_z0 hok (by simp [z0]; omega)
  by_cases h0 : acc.length = 0
  · refine ⟨2, fun bs => bs = [], fun x y hx hy => hx.trans hy.symm, fun w base q p v h hT => (bbytes_none h (by omega)).mono ?_, fun w a cap h => (hr w a cap h).mono ?_⟩
    · rintro e w' ⟨rfl, rfl⟩
      exact res_nil (Below.refl _ _)
    · rintro e w' ⟨⟨_, hl, _⟩ | ⟨_, rfl⟩ | ⟨hl, _⟩, B⟩
      · omega
      · exact res_nil B
      · omega
  · refine ⟨0, fun bs => IsC acc bs, fun x y hx hy => hx.same hy, fun w base q p v h hT => ?_, fun w a cap h => (hr w a cap h).mono ?_⟩
    · obtain ⟨B, hB⟩ := h.wr.holds
      refine (bbytes_any h hT (by omega) (by omega) (by omega) hB).mono ?_
      rintro e w' ⟨a', n', cap', rfl, H, b⟩
      exact ⟨_, a', n', cap', ⟨B, hB, by rw [hfn]⟩, rfl, H, b⟩
    · rintro e w' ⟨⟨_, _, c, a', n', cap', hI, rfl, H⟩ | ⟨hl, _⟩ | ⟨hl, _⟩, B⟩
      · exact ⟨c, a', n', cap', hI, rfl, H, B⟩
      · omega
      · omega
/-- A row of samples is no part of a builder. -/
theorem bd_apart {W : World} {base q p A k b' m : Nat} {v vi : Value} {z : Z} {xs : List Value} (h : Bd W base q p v z A k) (ho : W.ownsRow b' 33 2 vi m xs) : ∀ g, vi.ownBlock = some g → g ≠ q ∧ ¬ fp p v g := fun g hg => by
  rcases ho.2 with ⟨rfl, _⟩ | ⟨g', cap, cur, rfl, _, hgb, _⟩
  · cases hg
  · obtain rfl : g' = g := by simpa [Value.ownBlock] using hg
    obtain ⟨l, O, _⟩ := h.wr
    refine ⟨fun e => ?_, fun hf => ?_⟩
    · have := h.bx; rw [e] at hgb; rw [show W.heap[q]? = _ from this] at hgb; cases hgb
    · rcases hf with e | e
      · have := O.heap; rw [e] at hgb; rw [this] at hgb; cases hgb
      · rcases O.own.2 with ⟨e2, _⟩ | ⟨g2, cap2, cur2, e2, _, hg2, _⟩
        · rw [e2] at e; cases e
        · rw [e2] at e
          have : g2 = g' := by simpa [Value.ownBlock] using e
          rw [this, hgb] at hg2; cases hg2
theorem owns_blk {w w' : World} {base n : Nat} {v : Value} {xs : List Value} (h : w.ownsRow base 33 2 v n xs) (hb : ∀ k, v.ownBlock = some k → w'.heap[k]? = w.heap[k]?) : w'.ownsRow base 33 2 v n xs := by
  refine ⟨h.1, ?_⟩
  rcases h.2 with h1 | ⟨g, cap, cur, e, h2, h3, h4⟩
  · exact .inl h1
  · exact .inr ⟨g, cap, cur, e, h2, (hb g (by rw [e]; rfl)).trans h3, h4⟩
theorem owns_didB {W W' : World} {base q p A k b' m : Nat} {v v' vi : Value} {z : Z} {xs : List Value} (h : Bd W base q p v z A k) (ho : W.ownsRow b' 33 2 vi m xs) (d : DidB W W' base q p v v') : W'.ownsRow b' 33 2 vi m xs :=
  owns_blk ho (fun g hg => d.but.block g (ho.lt g hg).2 (fun e => by obtain ⟨h1, h2⟩ := bd_apart h ho g hg; rcases e with e | e; exact h1 e; exact h2 e))
theorem Bd.grown {W W' : World} {base q p A k b' m : Nat} {v vi : Value} {z : Z} {xs : List Value} (h : Bd W base q p v z A k) (ho : W.ownsRow b' 33 2 vi m xs) (hg : W.grownBy W' vi.ownBlock) : Bd W' base q p v z A k := by
  have hb : But (fun i => vi.ownBlock = some i) W W' := ⟨hg.os, hg.tape, hg.output, hg.size, fun i hi hn => hg.block i hi (fun e => hn e.symm)⟩
  obtain ⟨l, O, H⟩ := h.wr
  exact ⟨h.bx.but hb (fun e => (bd_apart h ho q e).1 rfl), ⟨l, O.kept hb (fun i hi => (bd_apart h ho i hi).2), H⟩, h.nf, h.ge⟩
theorem fin_last (acc : List Sm) (h : 0 < acc.length) : (fin z0 acc).L = (acc.getD (acc.length - 1) (0, 0)).1 := by
  rcases List.eq_nil_or_concat acc with rfl | ⟨l, s, rfl⟩
  · simp at h
  · rw [List.concat_eq_append, fin_snoc]
    simp [nxt]
/-- What holds between rounds. -/
structure PI (w6 : World) (q p : Nat) (acc : List Sm) (ai : Option Addr) (m ci : Nat) (v : Value) (wr : World) : Prop where
  bd : Bd wr w6.heap.size q p v (fin z0 acc) (eX z0 acc) (eN z0 acc)
  ok : OkL z0 acc
  len : acc.length = m
  le : m ≤ 120
  own : wr.ownsRow w6.heap.size 33 2 (.slice ai m ci) m (flat (acc.map up))
  bel : Below w6.heap.size w6 wr
theorem PI.has {w6 : World} {q p : Nat} {acc : List Sm} {ai : Option Addr} {m ci : Nat} {v : Value} {wr : World} (h : PI w6 q p acc ai m ci v wr) : HasS wr ai m ci (acc.map up) := by
  obtain ⟨a, c, e, H⟩ := hasS_of_owns h.own (okL_vb acc z0 h.ok)
  cases e
  exact H
theorem PI.n {w6 : World} {q p : Nat} {acc : List Sm} {ai : Option Addr} {m ci : Nat} {v : Value} {wr : World} (h : PI w6 q p acc ai m ci v wr) : (fin z0 acc).n = m := by rw [fin_n, h.len]; simp [z0]
theorem PI.last {w6 : World} {q p : Nat} {acc : List Sm} {ai : Option Addr} {m ci : Nat} {v : Value} {wr : World} (h : PI w6 q p acc ai m ci v wr) (hm : 0 < m) : ∃ b off, ai = some ⟨b, off, none⟩ ∧ wr.cell? ⟨b, off + (m - 1) * 2, none⟩ = some (.int .i64 ((fin z0 acc).L : Int)) := by
  obtain ⟨b, off, e, _, hc⟩ := h.has.cells hm
  refine ⟨b, off, e, ?_⟩
  rw [(hc (m - 1) (by omega)).1, map_getD acc (m - 1) (by have := h.len; omega), fin_last acc (by have := h.len; omega), h.len]
  rfl
theorem PI.below {w6 : World} {q p : Nat} {acc : List Sm} {ai : Option Addr} {m ci : Nat} {v : Value} {wr w2 : World} (h : PI w6 q p acc ai m ci v wr) (b : Below wr.heap.size wr w2) : PI w6 q p acc ai m ci v w2 :=
  ⟨h.bd.below b, h.ok, h.len, h.le, owns_blk h.own (fun g hg => b.block g (h.own.lt g hg).2), h.bel.trans (b.mono h.bel.size)⟩
theorem PI.no {w6 : World} {q p : Nat} {acc : List Sm} {ai : Option Addr} {m ci : Nat} {v v' : Value} {wr w2 : World} (h : PI w6 q p acc ai m ci v wr) (hB : Bd w2 w6.heap.size q p v' (fin z0 acc) (eX z0 acc) (eN z0 acc)) (d : DidB wr w2 w6.heap.size q p v v') : PI w6 q p acc ai m ci v' w2 :=
  ⟨hB, h.ok, h.len, h.le, owns_didB h.bd h.own d, h.bel.trans d.bel⟩
theorem okL_add : ∀ (l : List Sm) (z : Z) (s : Sm), OkL z l → OkN (fin z l) s → OkL z (l ++ [s])
  | [], z, s, _, h => ⟨h, trivial⟩
  | x :: l, z, s, h, k => ⟨h.1, okL_add l (nxt z x) s h.2 k⟩
/-- One more was added, to the builder and to the list. -/
theorem PI.more {w6 : World} {q p : Nat} {acc : List Sm} {ai : Option Addr} {m ci : Nat} {v v' : Value} {wr w2 w3 : World} {s : Sm} {v3 : Value} {o : Obj} (h : PI w6 q p acc ai m ci v wr) (hm : m < 120) (hs : OkN (fin z0 acc) s) (hB : Bd w2 w6.heap.size q p v' (nxt (fin z0 acc) s) (eX z0 acc * 2 ^ kN (fin z0 acc) s + kX (fin z0 acc) s) (eN z0 acc + kN (fin z0 acc) s)) (d : DidB wr w2 w6.heap.size q p v v')
    (O3 : w3.ownsRow w6.heap.size 33 2 v3 (m + 1) (flat (acc.map up ++ [up s]))) (G3 : (w2.alloc o).grownBy w3 (Value.slice ai m ci).ownBlock) : ∃ a3 c3, v3 = .slice a3 (m + 1) c3 ∧ PI w6 q p (acc ++ [s]) a3 (m + 1) c3 v' w3 := by
  obtain ⟨a3, c3, e3⟩ := slice_of_owns O3
  subst e3
  have own2 := owns_didB h.bd h.own d
  have bel2 := h.bel.trans d.bel
  have bel3 : Below w6.heap.size w6 w3 := (bel2.alloc bel2.size o).grown G3 (by have := bel2.size; simp; omega) (fun g e => (own2.lt g e).1)
  have B3 := (hB.below ((Below.refl _ w2).alloc (Nat.le_refl _) o)).grown (own2.alloc o) G3
  refine ⟨a3, c3, rfl, ⟨?_, okL_add acc z0 s h.ok hs, by simp [h.len], by omega, by rw [List.map_append]; exact O3, bel3⟩⟩
  rw [fin_snoc, eX_snoc, eN_snoc]
  exact B3
end Go.Proofs.YtmjjedbdedemcaaGreatDoor
