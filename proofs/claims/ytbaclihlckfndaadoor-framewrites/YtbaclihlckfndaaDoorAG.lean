/-
  How many sectors records need, and that too great ones are refused: count, Need, Write, and the reference's Need and Write, where they refuse.
-/
import Derived.Test.YtbaclihlckfndaaDoorAF
import Derived.Test.YtbaclihlckfndaaDoorP
namespace Go.Proofs.YtbaclihlckfndaaDoor
open Go.RowKit Go.Shelf
set_option linter.unusedVariables false

/-- What needing so many sectors comes to: how many, or too long. -/
def needE (ls : List (List Int)) : Int × Int := if ∀ x ∈ ls, x.length ≤ 65536 then ((needL ls : Nat), 0) else (0, 3)

theorem needL_take_le {ls : List (List Int)} {k : Nat} (h : ∀ i, i < k → (ls.getD i []).length ≤ 65536) (hk : k ≤ ls.length) : needL (ls.take k) ≤ 300 * k := by
  have := needL_le (ls := ls.take k) (fun x hx => by
    obtain ⟨i, hi, rfl⟩ := List.getElem_of_mem hx
    rw [List.length_take] at hi
    have := h i (by omega)
    rw [List.getElem_take]
    simpa [List.getD, List.getElem?_eq_getElem (show i < ls.length by omega)] using this) k
  rwa [List.take_take, Nat.min_self] at this
theorem all_short {ls : List (List Int)} (h : ∀ i, i < ls.length → (ls.getD i []).length ≤ 65536) : ∀ x ∈ ls, x.length ≤ 65536 := by
  intro x hx
  obtain ⟨i, hi, rfl⟩ := List.getElem_of_mem hx
  have := h i hi
  simpa [List.getD, List.getElem?_eq_getElem hi] using this
theorem not_short {ls : List (List Int)} {k : Nat} (hk : k < ls.length) (h : 65536 < (ls.getD k []).length) : ¬ ∀ x ∈ ls, x.length ≤ 65536 := fun ha => by
  have := ha ls[k] (List.getElem_mem _)
  simp [List.getD, List.getElem?_eq_getElem hk] at h
  omega

set_option maxHeartbeats 1000000 in
theorem count_any (w : World) (a : Option Addr) (len cap : Nat) (ls : List (List Int)) (h : HasL w a len cap ls) (hl : len ≤ 12) :
    Calls Tryd.prog 23 #[.slice a len cap] w fun e w' => e = .returned (.tuple #[.int .i64 (needE ls).1, .int .i64 (needE ls).2]) ∧ w' = w := by
  have hlen := h.hlen
  have hcells := hide h.cells
  have i1 : (len : Int) ≤ 12 := by omega
  clear h
  go_enter Tryd.func23, Tryd.ntmps23
  go_wp2_with fail
  go_loop [4, 12, 6] (fun v i _ => ∃ (k q : Nat), k ≤ len ∧ v = .int .i64 (q : Int) ∧ i = .int .i64 k ∧ Hid (q = needL (ls.take k)) ∧ Hid (∀ i, i < k → (ls.getD i []).length ≤ 65536)) (fun _ i _ => len - (intOf i).toNat)
  case atStart => exact ⟨0, 0, Nat.zero_le _, rfl, rfl, (by simp [needL] : (0 : Nat) = needL (ls.take 0)), fun i hi => by omega⟩
  case round =>
    obtain ⟨k, q, hk, rfl, rfl, hq, hsh⟩ := hrel
    have hqb : q ≤ 300 * k := by rw [hq.out]; exact needL_take_le hsh.out (by omega)
    have j2 : (q : Int) ≤ 3600 := by omega
    by_cases hkl : k < len
    · obtain ⟨b, off, rfl, hbl, hcl⟩ := hcells.out (by omega)
      obtain ⟨ai, ni, ci, hc, hHi⟩ := hcl k hkl
      have hni := hHi.hlen
      have hcm := Nat.le_trans hHi.le hHi.capb
      unfold maxLen at hcm
      have ic : (k : Int) < len := by omega
      clear hcl hHi
      replace hqb := hide hqb
      by_cases hlong : 65536 < ni
      · have j1 : (65536 : Int) < ni := by omega
        have he : Hid (needE ls = (0, 3)) := by show _ = _; unfold needE; rw [if_neg (not_short (k := k) (by omega) (by omega))]
        replace hni := hide hni
        go_wp2_with fail
        go_ret2
        exact ⟨by rw [he.out]; rfl, rfl⟩
      · obtain ⟨nd, hnd2⟩ : ∃ nd, (if 1 < (ni + 243) / 244 then (ni + 243) / 244 else 1) = nd := ⟨_, rfl⟩
        have hnew : Hid (q + nd = needL (ls.take (k + 1))) := by
          show _ = _
          rw [needL_take (by omega), ← hq.out, needR_eq _ ni hni, ← hnd2]
          split <;> omega
        have hsh2 : Hid (∀ i, i < k + 1 → (ls.getD i []).length ≤ 65536) := fun i hi => by
          by_cases h : i = k
          · subst h; omega
          · exact hsh.out i (by omega)
        have j1 : ¬ ((65536 : Int) < ni) := by omega
        have e5 : (if ((ni : Int) + 243) / 244 < (1 : Int) then (1 : Int) else ((ni : Int) + 243) / 244) = (nd : Int) := by rw [← hnd2]; split <;> split <;> omega
        have e6 : (if (1 : Int) < ((ni : Int) + 243) / 244 then ((ni : Int) + 243) / 244 else (1 : Int)) = (nd : Int) := by rw [← hnd2]; split <;> split <;> omega
        have hndb : (nd : Int) ≤ 65536 := by rw [← e5]; split <;> omega
        have e7 : (ni : Int) + 244 - 1 = (ni : Int) + 243 := by omega
        replace hnd2 := hide hnd2
        replace hni := hide hni
        go_wp2_with fail
        go_round
        case rel => exact ⟨k + 1, q + nd, by omega, by go_num, by go_num, hnew, hsh2⟩
        case measure => simp [intOf]; omega
    · obtain rfl : k = len := by omega
      have he : Hid (needE ls = ((q : Int), 0)) := by
        show _ = _
        unfold needE
        rw [if_pos (all_short (by rw [hlen]; exact hsh.out)), hq.out, ← hlen, List.take_length]
      replace hqb := hide hqb
      go_wp2_with fail
      go_ret2
      exact ⟨by rw [he.out]; rfl, rfl⟩

set_option maxHeartbeats 1000000 in
theorem rneed_any (w : World) (a : Option Addr) (len cap : Nat) (ls : List (List Int)) (h : HasL w a len cap ls) (hl : len ≤ 12) :
    Calls Tryd.prog 12 #[.slice a len cap] w fun e w' => e = .returned (.tuple #[.int .i64 (needE ls).1, .int .i64 (needE ls).2]) ∧ w' = w := by
  have hlen := h.hlen
  have hcells := hide h.cells
  have i1 : (len : Int) ≤ 12 := by omega
  clear h
  go_enter Tryd.func12, Tryd.ntmps12
  go_wp2_with fail
  go_loop [4, 5] (fun v i => ∃ (k q : Nat), k ≤ len ∧ v = .int .i64 (q : Int) ∧ i = .int .i64 k ∧ Hid (q = needL (ls.take k)) ∧ Hid (∀ i, i < k → (ls.getD i []).length ≤ 65536)) (fun _ i => len - (intOf i).toNat)
  case atStart => exact ⟨0, 0, Nat.zero_le _, rfl, rfl, (by simp [needL] : (0 : Nat) = needL (ls.take 0)), fun i hi => by omega⟩
  case round =>
    obtain ⟨k, q, hk, rfl, rfl, hq, hsh⟩ := hrel
    have hqb : q ≤ 300 * k := by rw [hq.out]; exact needL_take_le hsh.out (by omega)
    have j2 : (q : Int) ≤ 3600 := by omega
    by_cases hkl : k < len
    · obtain ⟨b, off, rfl, hbl, hcl⟩ := hcells.out (by omega)
      obtain ⟨ai, ni, ci, hc, hHi⟩ := hcl k hkl
      have hni := hHi.hlen
      have hcm := Nat.le_trans hHi.le hHi.capb
      unfold maxLen at hcm
      have ic : (k : Int) < len := by omega
      clear hcl hHi
      replace hqb := hide hqb
      by_cases hlong : 65536 < ni
      · have j1 : (65536 : Int) < ni := by omega
        have he : Hid (needE ls = (0, 3)) := by show _ = _; unfold needE; rw [if_neg (not_short (k := k) (by omega) (by omega))]
        replace hni := hide hni
        go_wp2_with fail
        go_ret2
        exact ⟨by rw [he.out]; rfl, rfl⟩
      · obtain ⟨nd, hnd2⟩ : ∃ nd, (if 1 < (ni + 243) / 244 then (ni + 243) / 244 else 1) = nd := ⟨_, rfl⟩
        have hnew : Hid (q + nd = needL (ls.take (k + 1))) := by
          show _ = _
          rw [needL_take (by omega), ← hq.out, needR_eq _ ni hni, ← hnd2]
          split <;> omega
        have hsh2 : Hid (∀ i, i < k + 1 → (ls.getD i []).length ≤ 65536) := fun i hi => by
          by_cases h : i = k
          · subst h; omega
          · exact hsh.out i (by omega)
        have j1 : ¬ ((65536 : Int) < ni) := by omega
        have e6 : (if (1 : Int) < ((ni : Int) + 243) / 244 then ((ni : Int) + 243) / 244 else (1 : Int)) = (nd : Int) := by rw [← hnd2]; split <;> split <;> omega
        have hndb : (nd : Int) ≤ 65536 := by rw [← e6]; split <;> omega
        replace hnd2 := hide hnd2
        replace hni := hide hni
        go_wp2_with fail
        go_round
        case rel => exact ⟨k + 1, q + nd, by omega, by go_num, by go_num, hnew, hsh2⟩
        case measure => simp [intOf]; omega
    · obtain rfl : k = len := by omega
      have he : Hid (needE ls = ((q : Int), 0)) := by
        show _ = _
        unfold needE
        rw [if_pos (all_short (by rw [hlen]; exact hsh.out)), hq.out, ← hlen, List.take_length]
      replace hqb := hide hqb
      go_wp2_with fail
      go_ret2
      exact ⟨by rw [he.out]; rfl, rfl⟩

set_option maxHeartbeats 1000000 in
theorem need_any (w : World) (a : Option Addr) (len cap : Nat) (ls : List (List Int)) (h : HasL w a len cap ls) (hl : len ≤ 12) :
    Calls Tryd.prog 11 #[.slice a len cap] w fun e w' => e = .returned (.tuple #[.int .i64 (needE ls).1, .int .i64 (needE ls).2]) ∧ w' = w := by
  have hc := hide (count_any w a len cap ls h hl)
  clear h
  go_enter Tryd.func11, Tryd.ntmps11
  go_wp2_with fail
  refine hc.out.mono ?_
  rintro e w' ⟨rfl, hw'⟩
  replace hw' := hw'.symm
  subst hw'
  go_wp2_with fail
  go_ret2
  exact ⟨rfl, rfl⟩
/-- Nothing and an error come out. -/
def Refused (w : World) (er : Int) (e : Ending) (w' : World) : Prop := e = .returned (.tuple #[.slice none 0 0, .int .i64 er]) ∧ w' = w
end Go.Proofs.YtbaclihlckfndaaDoor
