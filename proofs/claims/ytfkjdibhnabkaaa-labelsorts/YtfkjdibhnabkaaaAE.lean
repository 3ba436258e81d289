/-
  The walk of the reference's Check.
-/
import Derived.Test.YtfkjdibhnabkaaaAD
import Derived.BigQuiet
namespace Go.Proofs.Ytfkjdibhnabkaaa
open Go.RowKit Go.Shelf Go.Lib
set_option linter.unusedVariables false
set_option linter.unusedSimpArgs false

theorem s3_less (x y : Str) : s3 x y < 0 ↔ Op.bytesLess x.toList y.toList = true := by
  unfold s3
  split
  · next h => simp [h]
  · next h =>
    constructor
    · intro h2
      split at h2 <;> omega
    · intro h2; exact absurd h2 h

set_option maxHeartbeats 4000000 in
theorem rcheck_any (w : World) (a : Option Addr) (len cap : Nat) (L : List Lab) (h : HasB w a len cap L) :
    Calls Try.prog 17 #[.slice a len cap] w fun e w' => e = .returned (.int .i64 (errB L)) ∧ ∃ m, w' = w.drewN m := by
  have hl := h.hlen
  by_cases h0 : len < 1
  · rw [errB_no (by unfold chkB; simp; omega)]
    have i0 : (len : Int) < 1 := by omega
    clear h
    go_enter Try.func17, Try.ntmps17
    go_wp2_with fail
    go_ret
    exact ⟨rfl, 0, rfl⟩
  · have i0 : ¬ ((len : Int) < 1) := by omega
    by_cases h16 : 16 < len
    · rw [errB_no (by unfold chkB; simp; omega)]
      have i1 : (16 : Int) < (len : Int) := by omega
      clear h
      go_enter Try.func17, Try.ntmps17
      go_wp2_with fail
      go_ret
      exact ⟨rfl, 0, rfl⟩
    · have i1 : ¬ ((16 : Int) < (len : Int)) := by omega
      obtain ⟨b, off, rfl, hbl, hcl⟩ := h.cells (by omega)
      replace hcl := hide hcl
      clear h
      go_enter Try.func17, Try.ntmps17
      go_wp2_with fail
      go_loopw [3] (fun i wr => ∃ k : Nat, k ≤ len ∧ i = .int .i64 k ∧ Hid (∃ m, wr = w.drewN m) ∧ Hid ((∀ j, j < k → (nameB (L.getD j noLab).1 && isVal (L.getD j noLab).2) = true) ∧ (∀ j, j + 1 < k → s3 (L.getD j noLab).1 (L.getD (j + 1) noLab).1 < 0))) (fun i _ => len - (intOf i).toNat)
      case atStart => exact ⟨0, Nat.zero_le _, rfl, ⟨0, rfl⟩, ⟨fun j hj => by omega, fun j hj => by omega⟩⟩
      case round =>
        obtain ⟨k, hk, rfl, hwr, ht⟩ := hrel
        by_cases hkl : k < len
        · have j1 : (k : Int) < (len : Int) := by omega
          have hhp : wr.heap = w.heap := by obtain ⟨m, e⟩ := hwr.out; rw [e]; rfl
          have c0 : wr.cell? ⟨b, off + k * 2, none⟩ = some (.string (L.getD k noLab).1) := (World.cell?_of_block (by rw [hhp])).trans (hcl.out k hkl).1
          have c1 : wr.cell? ⟨b, off + k * 2 + 1, none⟩ = some (.string (L.getD k noLab).2) := (World.cell?_of_block (by rw [hhp])).trans (hcl.out k hkl).2
          have hfin : Hid (∀ q, ∃ m, wr.drewN q = w.drewN m) := fun q => by
            obtain ⟨m, e⟩ := hwr.out
            exact ⟨m + q, by rw [e, World.drewN_drewN]⟩
          have RN : Hid (∀ W, Calls Try.prog 28 #[.string (L.getD k noLab).1] W fun e w' => e = .returned (.bool (nameB (L.getD k noLab).1)) ∧ w' = W) := fun W => rname_any _ W
          have bad : Hid ((nameB (L.getD k noLab).1 && isVal (L.getD k noLab).2) = false → errB L = 40) := fun h => errB_no (chkB_bad (by omega) h)
          have next : Hid ((nameB (L.getD k noLab).1 && isVal (L.getD k noLab).2) = true → (∀ j, j + 1 = k → s3 (L.getD j noLab).1 (L.getD k noLab).1 < 0) → (∀ j, j < k + 1 → (nameB (L.getD j noLab).1 && isVal (L.getD j noLab).2) = true) ∧ (∀ j, j + 1 < k + 1 → s3 (L.getD j noLab).1 (L.getD (j + 1) noLab).1 < 0)) := fun h h' => by
            refine ⟨fun j hj => ?_, fun j hj => ?_⟩
            · rcases Nat.lt_succ_iff_lt_or_eq.1 hj with h9 | h9
              · exact ht.out.1 j h9
              · rw [h9]; exact h
            · rcases Nat.lt_succ_iff_lt_or_eq.1 hj with h9 | h9
              · exact ht.out.2 j h9
              · rw [h9]; exact h' j h9
          have prev : Hid (∀ j, j + 1 = k → (wr.cell? ⟨b, off + j * 2, none⟩ = some (.string (L.getD j noLab).1)) ∧ (¬ s3 (L.getD j noLab).1 (L.getD k noLab).1 < 0 → errB L = 40)) := fun j hj => by
            refine ⟨(World.cell?_of_block (by rw [hhp])).trans (hcl.out j (by omega)).1, fun h => errB_no (chkB_fall (k := j) (by omega) (by rw [hj]; exact h))⟩
          clear hhp ht
          generalize (L.getD k noLab).1 = x0 at *
          generalize (L.getD k noLab).2 = x1 at *
          cases hn : nameB x0 with
          | false =>
            rw [hn] at RN
            have fin := hide (bad.out (by rw [hn]; rfl))
            clear bad next prev hn
            go_wp2_with fail
            go_quiet ((go_at_call 28; exact Calls.quiet_of_same (RN.out _)))
            go_wp2_with fail
            go_ret
            exact ⟨by rw [fin.out]; rfl, hfin.out _⟩
          | true =>
            rw [hn] at RN
            by_cases he : x1.size = 0
            · have i3 : (ByteArray.toList x1).isEmpty = true := by rw [isEmpty_size, decide_eq_true_iff]; exact he
              have fin := hide (bad.out (by rw [hn]; simp [isVal]; omega))
              clear bad next prev hn
              go_wp2_with fail
              go_quiet ((go_at_call 28; exact Calls.quiet_of_same (RN.out _)))
              go_wp2_with fail
              go_ret
              exact ⟨by rw [fin.out]; rfl, hfin.out _⟩
            · have i3 : (ByteArray.toList x1).isEmpty = false := by rw [isEmpty_size, decide_eq_false_iff_not]; exact he
              by_cases hs : 256 < x1.size
              · have i4 : decide ((256 : Int) < (ByteArray.size x1 : Int)) = true := by simp; omega
                have i5 : decide (256 < ByteArray.size x1) = true := by simp; omega
                have fin := hide (bad.out (by rw [hn]; simp [isVal]; omega))
                clear bad next prev hn
                go_wp2_with fail
                go_quiet ((go_at_call 28; exact Calls.quiet_of_same (RN.out _)))
                go_wp2_with fail
                go_ret
                exact ⟨by rw [fin.out]; rfl, hfin.out _⟩
              · have i4 : decide ((256 : Int) < (ByteArray.size x1 : Int)) = false := by simp; omega
                have i5 : decide (256 < ByteArray.size x1) = false := by simp; omega
                have hv : (nameB x0 && isVal x1) = true := by rw [hn]; simp [isVal]; omega
                by_cases hk0 : k = 0
                · have ht2 := hide (next.out hv (fun j hj => by omega))
                  clear bad next prev hn hv he hs
                  subst hk0
                  simp only [show ((0 : Nat) : Int) = 0 from rfl, Nat.zero_mul, Nat.add_zero] at *
                  go_wp2_with fail
                  go_quiet ((go_at_call 28; exact Calls.quiet_of_same (RN.out _)))
                  go_wp2_with fail
                  go_roundw
                  case rel => exact ⟨1, by omega, rfl, hfin.out _, ht2⟩
                  case measure => simp [intOf]; omega
                · obtain ⟨j, hj⟩ : ∃ j, j + 1 = k := ⟨k - 1, by omega⟩
                  have i6 : (k : Int) - 1 = (j : Int) := by omega
                  have i7 : (j : Int) < (len : Int) := by omega
                  have i8 : (0 : Int) ≤ (j : Int) := by omega
                  have i9 : IntKind.i64.wrap (j : Int) = (j : Int) := by rw [IntKind.wrap_i64]; omega
                  have ia : decide ((0 : Int) < (k : Int)) = true := by simp; omega
                  have ib : decide (0 < k) = true := by simp; omega
                  have p0 := (prev.out j hj).1
                  have pe := hide (prev.out j hj).2
                  have nx := hide (fun h => next.out hv (fun j' hj' => by rw [show j' = j by omega]; exact h))
                  replace hj := hide hj
                  clear prev next bad hn hv he hs
                  generalize (L.getD j noLab).1 = y0 at p0 pe nx
                  by_cases hlt : s3 y0 x0 < 0
                  · have il : Op.bytesLess (ByteArray.toList y0) (ByteArray.toList x0) = true := (s3_less _ _).1 hlt
                    have ht2 := hide (nx.out hlt)
                    clear pe nx hlt
                    go_wp2_with fail
                    go_quiet ((go_at_call 28; exact Calls.quiet_of_same (RN.out _)))
                    go_wp2_with fail
                    go_roundw
                    case rel => exact ⟨k + 1, by omega, by go_num, hfin.out _, ht2⟩
                    case measure => simp [intOf]; omega
                  · have il : Op.bytesLess (ByteArray.toList y0) (ByteArray.toList x0) = false := by
                      cases hb : Op.bytesLess (ByteArray.toList y0) (ByteArray.toList x0) with
                      | false => rfl
                      | true => exact absurd ((s3_less _ _).2 hb) hlt
                    have fin := hide (pe.out hlt)
                    clear pe nx hlt
                    go_wp2_with fail
                    go_quiet ((go_at_call 28; exact Calls.quiet_of_same (RN.out _)))
                    go_wp2_with fail
                    go_ret
                    exact ⟨by rw [fin.out]; rfl, hfin.out _⟩
        · obtain rfl : len = k := by omega
          have fin := hide (errB_yes (chkB_good (L := L) (by omega) (by omega) (fun k hk => ht.out.1 k (by omega)) (fun j hj => ht.out.2 j (by omega))))
          go_wp2_with fail
          go_ret
          exact ⟨by rw [fin.out]; rfl, hwr.out⟩
end Go.Proofs.Ytfkjdibhnabkaaa
