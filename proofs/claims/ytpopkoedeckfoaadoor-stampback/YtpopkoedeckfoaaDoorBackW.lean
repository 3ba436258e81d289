/-
  What was written is read back; the walk of StampBack.
-/
import Derived.Test.YtpopkoedeckfoaaDoorSZ
namespace Go.Proofs.YtpopkoedeckfoaaDoor
open Go.RowKit
set_option linter.unusedVariables false
set_option linter.unusedSimpArgs false

theorem take_more (l : List Int) {k : Nat} (h : k < l.length) : l.take (k + 1) = l.take k ++ [l.getD k 0] := by
  rw [List.take_add_one, List.getElem?_eq_getElem h]
  simp [List.getD, List.getElem?_eq_getElem h]
theorem rdA_back {l lw : List Int} {n : Nat} (hn : l.length = n) (h4 : n ≤ 4096) (hok : ∀ j, j < n → okL l j) (hH : Holds lw (numP (fB l) (xB l) n) (posP (fB l) n)) :
    ∀ i, i ≤ n → rdA (num lw) lw.length i = .inl (tL l i, tD l i, posP (fB l) i, l.take i) := by
  intro i
  induction i with
  | zero => intro _; rfl
  | succ i ih =>
    intro hi
    have h0 := ih (by omega)
    have ht := hok i (by omega)
    have hs := okL_S (fun j hj => hok j (by omega)) (show i ≤ 4096 by omega)
    have hlo := hH.lo
    have hmo := posP_mono (fB l) (show i + 1 ≤ n from hi)
    have hp : posP (fB l) (i + 1) = posP (fB l) i + fB l i := rfl
    have hread := numP_read (fB l) (xB l) (show i < n by omega) hlo
    have hxl : xB l i < 2 ^ fB l i := cdX_lt hs (okL_val ht).2
    rw [← hH.num, Nat.mod_eq_of_lt hxl] at hread
    have hg := gtm_of hs (okL_T ht) (V := num lw) (N := lw.length) (p := posP (fB l) i) (show posP (fB l) i + fB l i ≤ 8 * lw.length by omega) hread
    rw [rdA_ok h0 hg, tD_next, ← tL_next, take_more l (by omega), (okL_val ht).1, ← tL_next]
    congr 3

set_option maxRecDepth 100000 in
set_option maxHeartbeats 4000000 in
theorem back_walk (t0 : Int) (a : Option Addr) (len cap : Nat) (ls : List Int) (w : World) (ht : Tab w) (wt : (Lit.int .i64 t0).wf = true) (h : HasI w a len cap ls) :
    Calls Tryd.prog 6 #[.int .i64 t0, .slice a len cap] w fun e w' => e = .returned (.bool true) ∧ Below w.heap.size w w' := by
  have hpos := hide ht.pos
  have KW := hide (works_any w ht)
  replace ht := hide ht
  replace h := hide h
  go_enter Tryd.func6, Tryd.ntmps6
  go_wp2_with fail
  refine KW.out.mono ?_
  rintro e w1 ⟨rfl, b1⟩
  have RS := hide (rising_any w1 t0 a len cap ls wt (h.out.kept b1 (Nat.le_refl _)))
  replace b1 := hide b1
  clear KW
  go_wp2_with fail
  refine RS.out.mono ?_
  rintro e w2 ⟨l, a2, n2, c2, rfl, H2, hn2, hok, b2⟩
  have b2' := hide (b1.out.trans (b2.mono b1.out.size))
  have hll := H2.hlen
  have BY := hide (sbytes_any w2 a2 n2 c2 l H2 hn2 (ht.out.kept b2'.out hpos.out))
  replace H2 := hide H2
  clear RS b2 b1
  have i1 : (n2 : Int) ≤ 61 := by omega
  go_wp2_with fail
  refine BY.out.mono ?_
  rintro e w3 ⟨⟨hok3, lw, a3, n3, c3, hH, rfl, H3⟩ | ⟨hno, rfl⟩, b3⟩
  · have b3' := hide (b2'.out.trans (b3.mono b2'.out.size))
    have hn3 := H3.hlen
    have hhi := hH.hi
    have hpo := posB_le l n2
    have RD := hide (read_any w3 a3 n3 c3 lw n2 (by omega) H3 (by omega) (ht.out.kept b3'.out hpos.out))
    have hbk := hide (rdA_back hll (by omega) hok3 hH n2 (Nat.le_refl _))
    have H2' := hide (H2.out.kept b3 (Nat.le_refl _))
    replace hok := hide hok
    replace hok3 := hide hok3
    replace hH := hide hH
    replace H3 := hide H3
    replace hll := hide hll
    replace hhi := hide hhi
    replace hpo := hide hpo
    replace hn3 := hide hn3
    clear BY b3
    go_wp2_with fail
    refine RD.out.mono ?_
    rintro e w4 ⟨⟨L, D, P, ts, a4, c4, hA, rfl, H4⟩ | ⟨er, hA, rfl⟩, b4⟩
    · have b4' := hide (b3'.out.trans (b4.mono b3'.out.size))
      have hts : ts = l := by
        have h5 := hbk.out.symm.trans hA
        simp only [Sum.inl.injEq, Prod.mk.injEq] at h5
        have h6 := h5.2.2.2
        rw [← hll.out, List.take_length] at h6
        exact h6.symm
      subst hts
      have SM := hide (same_ints w4 a2 a4 n2 c2 c4 ts (H2'.out.kept b4 (Nat.le_refl _)) H4 (by omega))
      replace H4 := hide H4
      replace hA := hide hA
      clear RD b4
      go_wp2_with fail
      refine SM.out.mono ?_
      rintro e w5 ⟨rfl, b5⟩
      have b5' := hide (b4'.out.trans (b5.mono b4'.out.size))
      go_wp2_with fail
      go_ret
      exact ⟨rfl, b5'.out⟩
    · rw [hbk.out] at hA
      cases hA
  · exact absurd (fun j hj => hok j (by omega)) hno
end Go.Proofs.YtpopkoedeckfoaaDoor
