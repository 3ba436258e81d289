/-
  The reference's Used.
-/
import Derived.Test.YtgbijkdfhkkieaaRJ
namespace Go.Proofs.Ytgbijkdfhkkieaa
open Go.RowKit Go.Maps Go.Lib
set_option linter.unusedVariables false
set_option linter.unusedSimpArgs false
theorem flat2_get (L : List (Value × Value)) : ∀ i p, L[i]? = some p → (flat2 L)[i * 2]? = some p.1 ∧ (flat2 L)[i * 2 + 1]? = some p.2 := by
  induction L with
  | nil => intro i p hi; simp at hi
  | cons q L ih =>
    intro i p hi
    cases i with
    | zero => simp at hi; subst hi; simp [flat2]
    | succ i =>
      have := ih i p (by simpa using hi)
      rw [show (i + 1) * 2 = i * 2 + 1 + 1 by omega]
      simpa [flat2] using this
def vlen : Value → Nat
  | .slice _ n _ => n
  | _ => 0
/-- The sectors of entries' files. -/
def usum (F : List (Value × Value)) (D : List Ent) : Nat := (D.map fun e => sec (vlen (F.getD e.2 (undef, undef)).1)).sum
theorem usum_take (F : List (Value × Value)) (D : List Ent) (k : Nat) (h : k < D.length) : usum F (D.take (k + 1)) = usum F (D.take k) + sec (vlen (F.getD (D.getD k noEnt).2 (undef, undef)).1) := by
  unfold usum
  rw [List.take_add_one, List.getElem?_eq_getElem h, List.map_append, List.sum_append, List.getD_eq_getElem?_getD (l := D), List.getElem?_eq_getElem h]
  simp
def rUsed (r : RM) : Nat := if r.gone then 0 else usum r.F r.D
section
variable {w : World} {y : Nat} {r : RM} {I : Nat → Prop} {vF vD vS : Value} {K : Nat}
/-- Where a file lies. -/
theorem Rk.at (h : Rk w y r I vF vD vS) {f : Nat} (hf : f < r.F.length) : ∃ g off c p, vF = .slice (some ⟨g, off, none⟩) r.F.length c ∧ r.F[f]? = some p ∧ p ∈ r.F ∧ w.cell? ⟨g, off + f * 2, none⟩ = some p.1 ∧ w.cell? ⟨g, off + f * 2 + 1, none⟩ = some p.2 ∧ off = 0 ∧ (∃ cur, Bx w g 102 cur) := by
  rcases h.ow.2 with ⟨e1, e2⟩ | ⟨g, cap, cur, e1, _, hb, _⟩
  · omega
  · obtain ⟨p, hp⟩ : ∃ p, r.F[f]? = some p := ⟨_, List.getElem?_eq_getElem hf⟩
    obtain ⟨f1, f2⟩ := flat2_get _ _ _ hp
    have c1 := h.ow.cells (g := g) (by rw [e1]; rfl) _ _ f1
    have c2 := h.ow.cells (g := g) (by rw [e1]; rfl) _ _ f2
    rw [add_plain] at c1 c2
    exact ⟨g, 0, cap, p, e1, hp, List.mem_of_getElem? hp, c1, by rw [Nat.add_assoc]; exact c2, rfl, cur, hb⟩
set_option maxHeartbeats 4000000 in
set_option maxRecDepth 100000 in
theorem rused_any (h : Rk w y r I vF vD vS) (hD : r.D.length ≤ 100001) (hF : r.F.length ≤ 100001) : Calls Try.prog 85 #[ptr y] w fun e w' => e = .returned (.int .i64 (rUsed r : Int)) ∧ rUsed r ≤ r.D.length * 16384 ∧ ∃ m, w' = w.drewN m := by
  obtain ⟨c0, c1, c2, c3, c4, c5, c6⟩ := h.cs
  obtain ⟨a, n, c, rfl, H, _⟩ := h.dd
  have hn := H.hlen
  have hc := hide H.cells
  have hat := hide (fun (f : Nat) (hf : f < r.F.length) => h.at hf)
  have hfl := hide h.fl
  have hxd := hide h.xd
  clear h H
  cases hg : r.gone with
  | true =>
    rw [hg] at c6
    have hz := hide (show rUsed r = 0 by simp [rUsed, hg])
    replace hg := hide hg
    by_cases hn0 : 0 < n
    · have i1 : (0 : Int) < (n : Int) := by omega
      go_enter Try.func85, Try.ntmps85
      go_wp2_with fail
      go_loopw [3, 4] (fun v i wr => v = .int .i64 0 ∧ i = .int .i64 0 ∧ wr = w) (fun _ i _ => n - (intOf i).toNat)
      case atStart => exact ⟨rfl, rfl, rfl⟩
      case round =>
        obtain ⟨rfl, rfl, rfl⟩ := hrel
        go_wp2_with fail
        go_ret
        exact ⟨by rw [hz.out]; rfl, by rw [hz.out]; exact Nat.zero_le _, 0, rfl⟩
    · obtain rfl : n = 0 := by omega
      go_enter Try.func85, Try.ntmps85
      go_wp2_with fail
      go_loopw [3, 4] (fun v i wr => v = .int .i64 0 ∧ i = .int .i64 0 ∧ wr = w) (fun _ i _ => 0 - (intOf i).toNat)
      case atStart => exact ⟨rfl, rfl, rfl⟩
      case round =>
        obtain ⟨rfl, rfl, rfl⟩ := hrel
        go_wp2_with fail
        go_ret
        exact ⟨by rw [hz.out]; rfl, by rw [hz.out]; exact Nat.zero_le _, 0, rfl⟩
  | false =>
    rw [hg] at c6
    have hz := hide (show rUsed r = usum r.F r.D by simp [rUsed, hg])
    replace hg := hide hg
    go_enter Try.func85, Try.ntmps85
    go_wp2_with fail
    go_loopw [3, 4] (fun v i wr => ∃ k u : Nat, k ≤ n ∧ u ≤ k * 16384 ∧ v = .int .i64 (u : Int) ∧ i = .int .i64 (k : Int) ∧ Hid (u = usum r.F (r.D.take k)) ∧ Hid (∃ m, wr = w.drewN m)) (fun _ i _ => n - (intOf i).toNat)
    case atStart => exact ⟨0, 0, Nat.zero_le _, Nat.zero_le _, rfl, rfl, (rfl : 0 = usum r.F (r.D.take 0)), ⟨0, rfl⟩⟩
    case round =>
      obtain ⟨k, u, hk, hu, rfl, rfl, hus, hm⟩ := hrel
      have hhp : wr.heap = w.heap := by obtain ⟨m, e⟩ := hm.out; rw [e]; rfl
      have ce : ∀ p : Addr, wr.cell? p = w.cell? p := fun p => World.cell?_of_block (by rw [hhp])
      have s0 : wr.cell? ⟨y, 0, none⟩ = some (.int .i64 r.mx) := (ce _).trans c0
      have s2 : wr.cell? ⟨y, 2, none⟩ = some vF := (ce _).trans c2
      have s3 : wr.cell? ⟨y, 3, none⟩ = some (.slice a n c) := (ce _).trans c3
      have s6 : wr.cell? ⟨y, 6, none⟩ = some (.bool false) := (ce _).trans c6
      by_cases hkl : k < n
      · have i1 : (k : Int) < (n : Int) := by omega
        obtain ⟨b, off, rfl, hbl, hcl⟩ := hc.out (by omega)
        have q1 : wr.cell? ⟨b, off + k * 2 + 1, none⟩ = some (.int .i64 ((r.D.getD k noEnt).2 : Int)) := (ce _).trans (hcl k hkl).2
        have hst := usum_take r.F r.D k (by omega)
        rw [← hus.out] at hst
        have hx := hxd.out _ (getD_mem (L := r.D) (k := k) (by omega))
        clear hcl
        generalize r.D.getD k noEnt = x at q1 hx hst
        obtain ⟨x0, x1⟩ := x
        simp only at q1 hx hst
        obtain ⟨g, of, cF, p, rfl, hp, hpm, z1, z2, eo, _⟩ := hat.out x1 hx
        clear eo
        have t1 : wr.cell? ⟨g, of + x1 * 2, none⟩ = some p.1 := (ce _).trans z1
        obtain ⟨aN, nN, cN, lN, eN, HN, hnN, _⟩ := (hfl.out p hpm).1
        rw [eN] at t1
        rw [List.getD_eq_getElem?_getD, hp, Option.getD_some, eN, vlen] at hst
        have i2 : (x1 : Int) < (r.F.length : Int) := by omega
        have i3 : (0 : Int) ≤ (x1 : Int) := by omega
        have hsec : sec nN ≤ 16384 := by unfold sec; omega
        have P := hide (fun wx : World => rsectors_any wx nN (by omega))
        have hw1 : IntKind.i64.wrap ((u : Int) + (sec nN : Int)) = (u : Int) + (sec nN : Int) := wrapi _ (by omega)
        obtain ⟨S, hS⟩ : ∃ S, sec nN = S := ⟨_, rfl⟩
        rw [hS] at hsec P hw1 hst
        replace hst := hide hst.symm
        clear z1 z2 HN hp hpm eN hS c0 c1 c2 c3 c4 c5 c6 ce hhp
        go_wp2_with fail
        go_quiet ((go_at_call 86; exact Calls.quiet_of_same (P.out _)))
        go_wp2_with fail
        go_roundw
        case rel => exact ⟨k + 1, u + S, by omega, by omega, by go_num, by go_num, hst, (by obtain ⟨m, e⟩ := hm.out; exact ⟨m + nq, by rw [e, World.drewN_drewN]⟩ : ∃ m, wr.drewN nq = w.drewN m)⟩
        case measure => simp [intOf]; omega
      · have i1 : ¬ ((k : Int) < (n : Int)) := by omega
        have hu3 : Hid (rUsed r = u ∧ u ≤ r.D.length * 16384) := by
          have e : k = r.D.length := by omega
          refine ⟨?_, by rw [← e]; exact hu⟩
          rw [hz.out, hus.out, e, List.take_length]
        clear c0 c1 c2 c3 c4 c5 c6 ce hhp
        go_wp2_with fail
        go_ret
        exact ⟨by rw [hu3.out.1]; rfl, (by first | (rw [hu3.out.1]; exact hu3.out.2) | (rw [hu3.out.1, ← hn]; exact hu3.out.2)), hm.out⟩
end
end Go.Proofs.Ytgbijkdfhkkieaa
