/-
  Check.
-/
import Derived.Test.YtlmpndmceiihaaaJ
namespace Go.Proofs.Ytlmpndmceiihaaa
open Go.RowKit
set_option linter.unusedVariables false
set_option linter.unusedSimpArgs false

def chkB (L : List Lab) : Bool := decide (0 < L.length) && decide (L.length ≤ 16) && riseB L && L.all fun x => nameB x.1 && isVal x.2
def errB (L : List Lab) : Int := if chkB L = true then 0 else 40
theorem errB_yes {L : List Lab} (h : chkB L = true) : errB L = 0 := by unfold errB; rw [if_pos h]
theorem errB_no {L : List Lab} (h : chkB L = false) : errB L = 40 := by unfold errB; rw [h]; rfl

set_option maxHeartbeats 2000000 in
theorem check_any (w : World) (a : Option Addr) (len cap : Nat) (L : List Lab) (h : HasB w a len cap L) :
    Calls Try.prog 13 #[.slice a len cap] w fun e w' => e = .returned (.int .i64 (errB L)) ∧ Below w.heap.size w w' := by
  have hl := h.hlen
  by_cases h1 : 0 < len
  · have i1 : (((len : Nat) : Int) == 0) = false := beq_eq_false_iff_ne.2 (by omega)
    by_cases h2 : len ≤ 16
    · have i2 : ¬ ((16 : Int) < (len : Int)) := by omega
      have hri := hide (rises_any a len cap L w h h1)
      have hc := hide h.cells
      clear h
      cases hr : riseB L with
      | false =>
        rw [errB_no (by simp [chkB, hr])]
        rw [hr] at hri
        go_enter Try.func13, Try.ntmps13
        go_wp2_with (go_at_call 22; refine hri.out.mono ?_; rintro e W2 ⟨rfl, B2⟩; replace B2 := hide B2)
        go_ret
        exact ⟨rfl, B2.out⟩
      | true =>
        rw [hr] at hri
        go_enter Try.func13, Try.ntmps13
        go_wp2_with (go_at_call 22; refine hri.out.mono ?_; rintro e W2 ⟨rfl, B2⟩; replace B2 := hide B2)
        go_loopw [20] (fun i wr => ∃ k : Nat, k ≤ len ∧ i = .int .i64 k ∧ Hid (Below w.heap.size w wr) ∧ Hid (∀ j, j < k → (nameB (L.getD j noLab).1 && isVal (L.getD j noLab).2) = true)) (fun i _ => len - (intOf i).toNat)
        case atStart => exact ⟨0, Nat.zero_le _, rfl, B2, (fun j hj => by omega : ∀ j, j < 0 → (nameB (L.getD j noLab).1 && isVal (L.getD j noLab).2) = true)⟩
        case round =>
          obtain ⟨k, hk, rfl, hB, ht⟩ := hrel
          by_cases hkl : k < len
          · obtain ⟨b, off, rfl, hbl, hcl⟩ := hc.out (by omega)
            have j1 : (k : Int) < (len : Int) := by omega
            have hsz := hB.out.size
            have c0 : wr.cell? ⟨b, off + k * 2, none⟩ = some (.string (L.getD k noLab).1) := (hB.out.cell (p := ⟨b, off + k * 2, none⟩) hbl).trans (hcl k hkl).1
            have c1 : wr.cell? ⟨b, off + k * 2 + 1, none⟩ = some (.string (L.getD k noLab).2) := (hB.out.cell (p := ⟨b, off + k * 2 + 1, none⟩) hbl).trans (hcl k hkl).2
            have ok (h : (nameB (L.getD k noLab).1 && isVal (L.getD k noLab).2) = true) : Hid (∀ j, j < k + 1 → (nameB (L.getD j noLab).1 && isVal (L.getD j noLab).2) = true) := fun j hj => by
              rcases Nat.lt_succ_iff_lt_or_eq.1 hj with h' | h'
              · exact ht.out j h'
              · rw [h']; exact h
            have no (h : (nameB (L.getD k noLab).1 && isVal (L.getD k noLab).2) = false) : Hid (errB L = 40) := errB_no (by
              unfold chkB
              rw [Bool.and_eq_false_iff]
              refine .inr ?_
              rw [List.all_eq_false]
              refine ⟨L.getD k noLab, ?_, by rw [h]; simp⟩
              rw [List.getD_eq_getElem?_getD, List.getElem?_eq_getElem (by omega)]
              exact List.getElem_mem _)
            generalize L.getD k noLab = x at c0 c1 ok no
            obtain ⟨x0, x1⟩ := x
            simp only at c0 c1 ok no
            clear hcl
            cases ha : nameB x0 with
            | false =>
              have e40 := no (by simp [ha])
              clear ok no
              go_wp2_with (first | (go_at_call 23; refine (name_any _ _).mono ?_; rintro e w' ⟨rfl, hw⟩; replace hw := hw.symm; subst hw; (try rw [ha])))
              go_ret
              exact ⟨by rw [e40.out]; rfl, hB.out.alloc hsz _⟩
            | true =>
              cases hb : isVal x1 with
              | false =>
                have e40 := no (by simp [hb])
                clear ok no
                go_wp2_with (first | (go_at_call 23; refine (name_any _ _).mono ?_; rintro e w' ⟨rfl, hw⟩; replace hw := hw.symm; subst hw; (try rw [ha])) | (go_at_call 24; refine (value_any _ _).mono ?_; rintro e w' ⟨rfl, hw⟩; replace hw := hw.symm; subst hw; (try rw [hb])))
                go_ret
                exact ⟨by rw [e40.out]; rfl, hB.out.alloc hsz _⟩
              | true =>
                have ht2 := ok (by simp [ha, hb])
                clear ok no
                go_wp2_with (first | (go_at_call 23; refine (name_any _ _).mono ?_; rintro e w' ⟨rfl, hw⟩; replace hw := hw.symm; subst hw; (try rw [ha])) | (go_at_call 24; refine (value_any _ _).mono ?_; rintro e w' ⟨rfl, hw⟩; replace hw := hw.symm; subst hw; (try rw [hb])))
                go_roundw
                case rel => exact ⟨k + 1, by omega, by go_num, hB.out.alloc hsz _, ht2⟩
                case measure => simp [intOf]; omega
          · obtain rfl : k = len := by omega
            have fin : Hid (errB L = 0) := errB_yes (by
              unfold chkB
              simp only [hr, hl, h1, h2, Bool.and_eq_true, decide_true, and_self, true_and, List.all_eq_true]
              intro x hx
              obtain ⟨j, hj, e⟩ := List.getElem_of_mem hx
              have h3 := ht.out j (by omega)
              rw [List.getD_eq_getElem?_getD, List.getElem?_eq_getElem hj] at h3
              simpa [e] using h3)
            go_wp2
            go_ret
            exact ⟨by rw [fin.out]; rfl, hB.out⟩
    · have i2 : (16 : Int) < (len : Int) := by omega
      rw [errB_no (by simp [chkB, hl, h2])]
      clear h
      go_enter Try.func13, Try.ntmps13
      go_wp2
      go_ret
      exact ⟨rfl, Below.refl _ _⟩
  · have i1 : (((len : Nat) : Int) == 0) = true := beq_iff_eq.2 (by omega)
    rw [errB_no (by simp [chkB, hl, h1])]
    clear h
    go_enter Try.func13, Try.ntmps13
    go_wp2
    go_ret
    exact ⟨rfl, Below.refl _ _⟩
end Go.Proofs.Ytlmpndmceiihaaa
