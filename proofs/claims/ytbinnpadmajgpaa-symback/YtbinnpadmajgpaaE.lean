/-
  The library's calls: Clone, Sort, Compact, ContainsFunc, strings.Clone; sorted.
-/
import Derived.Test.YtbinnpadmajgpaaC
import Derived.Ground.SlgnProg
import Derived.Ground.SlgfProg
import Derived.Ground.SlgmProg
import Derived.Shelf.SlicesE.Clone
import Derived.Shelf.SlicesE.IndexFunc
import Derived.Shelf.SlicesG.CompactS
import Derived.Shelf.SortM.Plain
import Derived.Shelf.SortM.SortNone
import Derived.Shelf.Pu.Clone
import Derived.Sort.OwnSorted
namespace Go.Proofs.Ytbinnpadmajgpaa
open Go.RowKit Go.Shelf Go.Sort
set_option linter.unusedVariables false
set_option linter.unusedSimpArgs false
set_option maxRecDepth 100000
shelf_lay_g SlLaysE0.n41 Slgn 41 at Try 31 as Try.clone31
shelf_lay_g SlLaysM.n6 Slgm 6 at Try 32 as Try.sort32
shelf_lay_g SlLaysN.n44 Slgn 44 at Try 33 as Try.compact33
shelf_lay_g SlLaysH.n8 Slgf 8 at Try 17 as Try.any17
shelf_lay LaysPu.n25 Mp 25 at Try as Try.laysCL

theorem info9 : (Try.prog.info? 9).map (fun i => (i.zero, i.size, i.bytes)) = some (some (.string ByteArray.empty), 1, 16) := by kernel_rfl
theorem size9 : ∀ w, (sizeOf 9).run Try.prog w = .ok 1 w := fun w => by kernel_rfl
theorem clone_any (w : World) (a : Option Addr) (n c : Nat) (l : List Tx) (h : HasS w a n c l) (hn : n ≤ 1000000) :
    Calls Try.prog 31 #[.slice a n c] w fun e w' => ∃ v, e = .returned v ∧ w'.ownsRow w.heap.size 9 1 v n (l.map encStr) ∧ Below w.heap.size w w' := by
  have hl := h.hlen
  rcases h.form with ⟨rfl, _⟩ | ⟨b, off, rfl⟩
  · refine (AnyE.slices_Clone_nil Try.clone31 n c w).mono ?_
    rintro e w' ⟨rfl, rfl⟩
    have h0 : n = 0 := by
      rcases Nat.eq_zero_or_pos n with h0 | h0
      · exact h0
      · obtain ⟨_, _, e, _⟩ := h.cells 0 h0; cases e
    subst h0
    obtain rfl : l = [] := List.eq_nil_of_length_eq_zero hl
    exact ⟨_, rfl, World.ownsRow_nil _ _ 9 1, Below.refl _ _⟩
  · obtain ⟨i0, hi, hz0, hz1, hz2⟩ := info_parts info9
    refine (AnyE.slices_Clone Try.clone31 i0 (.string ByteArray.empty) 1 16 hi hz0 hz1 hz2 rfl (by decide) size9 b off n c (l.map encStr) w (by simp [hl]) (by unfold maxLen; omega) (by omega) (fun j u hj => ?_) (fun u hu => ?_)).mono ?_
    · have hjl : j < l.length := by
        rcases Nat.lt_or_ge j l.length with h | h
        · exact h
        · rw [List.getElem?_eq_none (by simpa using h)] at hj; cases hj
      obtain ⟨b', off', e, _, e3⟩ := h.cells j (by omega)
      cases e
      rw [e3]
      simpa [List.getD, List.getElem?_eq_getElem hjl] using hj
    · obtain ⟨x, _, rfl⟩ := List.mem_map.1 hu; rfl
    · rintro e w' ⟨v, rfl, h1, _, h2⟩
      exact ⟨v, rfl, h1, h2⟩
/-- slices.Sort of a row of one's own. -/
theorem sort_own {w : World} {base : Nat} {v : Value} {ss : List Tx} {n : Nat} (hn : ss.length = n) (h : w.ownsRow base 9 1 v n (ss.map encStr)) (hl : ss.length ≤ 1000000000) :
    Calls Try.prog 32 #[v] w fun e w' => e = .returned (.tuple #[]) ∧ w'.ownsRow base 9 1 v n ((srt ss).map encStr) ∧ w.grownBy w' v.ownBlock := by
  subst hn
  rcases h.2 with ⟨rfl, h0⟩ | ⟨g, cap, cur, rfl, hb, hg, h1, h2, h3, ht⟩
  · obtain rfl : ss = [] := List.eq_nil_of_length_eq_zero h0
    refine (AnyM.slices_Sort_string_none Try.sort32 none 0 w).mono ?_
    rintro e w' ⟨rfl, rfl⟩
    refine ⟨rfl, by simpa [srt] using h, ⟨rfl, rfl, rfl, Nat.le_refl _, fun _ _ _ => rfl⟩⟩
  · rcases Nat.eq_zero_or_pos ss.length with h0 | hp
    · obtain rfl : ss = [] := List.eq_nil_of_length_eq_zero h0
      refine (AnyM.slices_Sort_string_none Try.sort32 (some ⟨g, 0, none⟩) cap w).mono ?_
      rintro e w' ⟨rfl, rfl⟩
      refine ⟨rfl, by simpa [srt] using h, ⟨rfl, rfl, rfl, Nat.le_refl _, fun _ _ _ => rfl⟩⟩
    · rw [Nat.mul_one] at ht
      refine (AnyM.slices_Sort_string Try.sort32 g 0 cap ss w (holds_of_block hg ht) (Array.getElem?_eq_some_iff.1 hg).1 (by omega)).mono ?_
      rintro e w' ⟨rfl, m, os, rfl⟩
      refine ⟨rfl, ?_, grownBy_sorted _⟩
      exact ownsRow_sorted (n := m) (os := os) (ts := srt ss) (srt_len ss) hb hg h1 h2 h3
theorem grow_none (w : World) : grow w #[] = w := by unfold grow; simp
/-- slices.Compact of a row of one's own. -/
theorem compact_own {w : World} {base : Nat} {v : Value} {ss : List Tx} {n : Nat} (hn : ss.length = n) (h : w.ownsRow base 9 1 v n (ss.map encStr)) (hl : ss.length ≤ 1000000000) :
    Calls Try.prog 33 #[v] w fun e w' => ∃ a c, e = .returned (.slice a (Lib.compact ss).length c) ∧ HasS w' a (Lib.compact ss).length c (Lib.compact ss) ∧ w.grownBy w' v.ownBlock := by
  subst hn
  obtain ⟨a, c, rfl, H⟩ := hasS_of_owns h
  rcases Nat.eq_zero_or_pos ss.length with h0 | hp
  · obtain rfl : ss = [] := List.eq_nil_of_length_eq_zero h0
    refine (AnyG.slices_Compact_string_empty Try.compact33 a c w).mono ?_
    rintro e w' ⟨rfl, rfl⟩
    refine ⟨a, c, by simp [Lib.compact, Lib.compactUpTo], by simpa [Lib.compact, Lib.compactUpTo] using H, ⟨rfl, rfl, rfl, Nat.le_refl _, fun _ _ _ => rfl⟩⟩
  · rcases h.2 with ⟨h1, h0⟩ | ⟨g, cap, cur, hv, hb, hg, h1, h2, h3, ht⟩
    · omega
    · cases hv
      rw [Nat.mul_one] at ht
      have hc : (Lib.compact ss).length ≤ ss.length := by
        have h := (compact_len ss)
        exact h
      refine (AnyG.slices_Compact_string Try.compact33 g 0 c ss w (holds_of_block hg ht) (by omega) h1).mono ?_
      rintro e w' ⟨rfl, q, rfl⟩
      obtain ⟨ts, hts⟩ : ∃ ts, Lib.compact ss ++ List.replicate (ss.length - (Lib.compact ss).length) [] = ts := ⟨_, rfl⟩
      have hlt : ts.length = ss.length := by rw [← hts]; simp; omega
      have O := ownsRow_sorted (n := q) (os := #[]) (ts := ts) hlt hb hg h1 h2 h3
      have G := grownBy_sorted (w := w) (g := g) (n := q) (os := #[]) ts.toArray
      rw [grow_none] at O G
      rw [hts]
      obtain ⟨a', c', e', H'⟩ := hasS_of_owns O
      cases e'
      refine ⟨_, _, rfl, ⟨rfl, by omega, h2, .inr ⟨_, _, rfl⟩, fun i hi => ?_⟩, G⟩
      obtain ⟨b, off, e1, e2, e3⟩ := H'.cells i (by omega)
      refine ⟨b, off, e1, e2, ?_⟩
      rw [e3, ← hts]
      simp [List.getD, List.getElem?_append_left hi]
set_option maxHeartbeats 400000 in
theorem sorted_any (w : World) (a : Option Addr) (n c : Nat) (l : List Tx) (h : HasS w a n c l) (hn : n ≤ 1000000) :
    Calls Try.prog 19 #[.slice a n c] w fun e w' => ∃ a' c', e = .returned (.slice a' (mk l).length c') ∧ HasS w' a' (mk l).length c' (mk l) ∧ Below w.heap.size w w' := by
  have hl := h.hlen
  have H1 := hide (clone_any w a n c l h hn)
  clear h
  go_enter Try.func19, Try.ntmps19
  go_wp2_with fail
  refine H1.out.mono ?_
  rintro e w1 ⟨v, rfl, O1, B1⟩
  have H2 := hide (sort_own hl O1 (by omega))
  have vb := hide (O1.lt)
  replace B1 := hide B1
  replace O1 := hide O1
  go_wp2_with fail
  refine H2.out.mono ?_
  rintro e w2 ⟨rfl, O2, G2⟩
  have B2 := hide (B1.out.grown G2 B1.out.size (fun k e => (vb.out k e).1))
  have H3 := hide (compact_own (ss := srt l) ((srt_len l).trans hl) O2 (by rw [srt_len]; omega))
  replace O2 := hide O2
  replace G2 := hide G2
  go_wp2_with fail
  refine H3.out.mono ?_
  rintro e w3 ⟨a', c', rfl, hs, G3⟩
  have B3 := hide (B2.out.grown G3 B2.out.size (fun k e => (vb.out k e).1))
  replace hs := hide hs
  replace G3 := hide G3
  go_wp2_with fail
  go_ret
  exact ⟨a', c', rfl, hs.out, B3.out⟩
end Go.Proofs.Ytbinnpadmajgpaa
