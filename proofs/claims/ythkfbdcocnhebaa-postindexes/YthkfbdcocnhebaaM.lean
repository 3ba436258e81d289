/-
  The reference: Check, in, all.
-/
import Derived.Test.YthkfbdcocnhebaaI
namespace Go.Proofs.Ythkfbdcocnhebaa
open Go.RowKit
set_option linter.unusedVariables false
set_option linter.unusedSimpArgs false

set_option maxHeartbeats 1000000 in
theorem rcheck_any (w : World) (a : Option Addr) (n c : Nat) (l : List Int) (h : HasU w a n c l) (hs : n ≤ 1000000000) :
    Calls Try.prog 16 #[.slice a n c] w fun e w' => e = .returned (.int .i64 (upE l)) ∧ Below w.heap.size w w' := by
  have hc := hide h
  have hl := hide h.hlen
  have i1 : (n : Int) ≤ 1000000000 := by omega
  clear h
  go_enter Try.func16, Try.ntmps16
  go_wp2_with fail
  go_loopw [3] (fun iv wr => ∃ i : Nat, (i = 0 ∨ i + 1 ≤ n) ∧ iv = .int .i64 ((i : Int) + 1) ∧ Hid (∀ j, j + 1 < i + 1 → l.getD j 0 < l.getD (j + 1) 0) ∧ Hid (Below w.heap.size w wr)) (fun iv _ => n + 1 - (intOf iv).toNat)
  case atStart => exact ⟨0, .inl rfl, rfl, (fun j hj => by omega : ∀ j, j + 1 < 0 + 1 → l.getD j 0 < l.getD (j + 1) 0), Below.refl _ _⟩
  case round =>
    obtain ⟨i, hi, rfl, hsm, B⟩ := hrel
    by_cases hlt : i + 1 < n
    · have j1 : (i : Int) + 1 < (n : Int) := by omega
      have j2 : (0 : Int) ≤ (i : Int) := by omega
      have j3 : (i : Int) < (n : Int) := by omega
      have j5 : (0 : Int) ≤ (i : Int) + 1 := by omega
      obtain ⟨b, off, rfl, hb, c1, _⟩ := hc.out.at i (by omega)
      obtain ⟨b', off', e', hb', c2, _⟩ := hc.out.at (i + 1) hlt
      cases e'
      have c1i : wr.cell? ⟨b, off + i, none⟩ = some (.int .u64 (l.getD i 0)) := (B.out.cell (p := ⟨b, off + i, none⟩) hb).trans c1
      have c2i : wr.cell? ⟨b, off + (i + 1), none⟩ = some (.int .u64 (l.getD (i + 1) 0)) := (B.out.cell (p := ⟨b, off + (i + 1), none⟩) hb').trans c2
      have tn : ((i : Int) + 1).toNat = i + 1 := by omega
      clear c1 c2
      have hgo : Hid (l.getD i 0 < l.getD (i + 1) 0 → ∀ j, j + 1 < i + 1 + 1 → l.getD j 0 < l.getD (j + 1) 0) := fun e j hj => by
        rcases Nat.lt_or_ge j i with h | h
        · exact hsm.out j (by omega)
        · obtain rfl : j = i := by omega
          exact e
      have hno : Hid (l.getD (i + 1) 0 ≤ l.getD i 0 → upE l = 2) := fun e => by
        unfold upE
        rw [upB_false (i := i) (by rw [hl.out]; exact hlt) e]
        rfl
      generalize l.getD i 0 = t at *
      generalize l.getD (i + 1) 0 = t' at *
      have j4 : i + 1 + 1 ≤ n := by omega
      by_cases he : t' ≤ t
      · have hd := hide (hno.out he)
        go_wp2_with fail
        go_quiet (fail)
        go_wp2_with fail
        go_ret
        exact ⟨ret_int hd.out.symm, below_drewN B.out nq⟩
      · have he2 : t < t' := by omega
        replace hgo := hide (hgo.out he2)
        go_wp2_with fail
        go_quiet (fail)
        go_wp2_with fail
        go_roundw
        case rel => exact ⟨i + 1, .inr j4, by go_num, hgo, below_drewN B.out nq⟩
        case measure => simp [intOf]; omega
    · have j1 : ¬ (i : Int) + 1 < (n : Int) := by omega
      go_wp2_with fail
      go_ret
      refine ⟨ret_int (Eq.symm ?_), B.out⟩
      unfold upE
      rw [if_pos]
      rw [upB_iff]
      intro j hj
      exact hsm.out j (by rw [hl.out] at hj; omega)
set_option maxHeartbeats 1000000 in
theorem in_any (w : World) (a : Option Addr) (n c : Nat) (l : List Int) (x : Int) (h : HasU w a n c l) (hs : n ≤ 1000000000) :
    Calls Try.prog 46 #[.slice a n c, .int .u64 x] w fun e w' => e = .returned (.bool (decide (x ∈ l))) ∧ w' = w := by
  have hc := hide h
  have hl := hide h.hlen
  have i1 : (n : Int) ≤ 1000000000 := by omega
  clear h
  go_enter Try.func46, Try.ntmps46
  go_wp2_with fail
  go_loopw [5] (fun iv wr => ∃ i : Nat, i ≤ n ∧ iv = .int .i64 (i : Int) ∧ Hid (∀ j, j < i → l.getD j 0 ≠ x) ∧ Hid (wr = w)) (fun iv _ => n - (intOf iv).toNat)
  case atStart => exact ⟨0, Nat.zero_le _, rfl, (fun j hj => by omega : ∀ j, j < 0 → l.getD j 0 ≠ x), (rfl : _ = _)⟩
  case round =>
    obtain ⟨i, hi, rfl, hsm, hw⟩ := hrel
    obtain rfl := hw.out
    by_cases hlt : i < n
    · have j1 : (i : Int) < (n : Int) := by omega
      have j2 : (0 : Int) ≤ (i : Int) := by omega
      obtain ⟨b, off, rfl, hb, c1, _⟩ := hc.out.at i hlt
      have hgo : Hid (l.getD i 0 ≠ x → ∀ j, j < i + 1 → l.getD j 0 ≠ x) := fun e j hj => by
        rcases Nat.lt_or_ge j i with h | h
        · exact hsm.out j h
        · obtain rfl : j = i := by omega
          exact e
      have hyes : Hid (l.getD i 0 = x → x ∈ l) := fun e => by
        rw [← e, show l.getD i 0 = l[i]'(by rw [hl.out]; exact hlt) by simp [List.getD, List.getElem?_eq_getElem (show i < l.length by rw [hl.out]; exact hlt)]]
        exact List.getElem_mem _
      generalize l.getD i 0 = t at *
      have j4 : i + 1 ≤ n := by omega
      by_cases he : t = x
      · have hd := hide (decide_eq_true (hyes.out he))
        have k1 : (t == x) = true := by simpa using he
        subst he
        go_wp2_with fail
        go_ret
        exact ⟨ret_bool hd.out.symm, rfl⟩
      · replace hgo := hide (hgo.out he)
        have k1 : (t == x) = false := by simpa using he
        replace he := hide he
        go_wp2_with fail
        go_roundw
        case rel => exact ⟨i + 1, j4, by go_num, hgo, trivial⟩
        case measure => simp [intOf]; omega
    · obtain rfl : i = n := by omega
      have j1 : ¬ (i : Int) < (i : Int) := by omega
      go_wp2_with fail
      go_ret
      refine ⟨ret_bool (Eq.symm ?_), rfl⟩
      rw [decide_eq_false_iff_not]
      intro hx
      obtain ⟨j, hj, rfl⟩ := List.getElem_of_mem hx
      exact hsm.out j (by rw [← hl.out]; exact hj) (by simp [List.getD, List.getElem?_eq_getElem hj])
set_option maxHeartbeats 1000000 in
theorem rall_any (w : World) (a : Option Addr) (n c : Nat) (ls : List (List Int)) (h : HasLL w a n c ls) (hn : n ≤ 4096) (hs : ∀ l ∈ ls, l.length ≤ 1000000000) :
    Calls Try.prog 45 #[.slice a n c] w fun e w' => e = .returned (.int .i64 (allE ls)) ∧ Below w.heap.size w w' := by
  have hc := hide h
  have hl := hide h.hlen
  replace hs := hide hs
  have i1 : (n : Int) ≤ 4096 := by omega
  have i2 : ¬ (4096 : Int) < (n : Int) := by omega
  clear h
  go_enter Try.func45, Try.ntmps45
  go_wp2_with fail
  go_loopw [3] (fun iv wr => ∃ i : Nat, i ≤ n ∧ iv = .int .i64 (i : Int) ∧ Hid (∀ j, j < i → Up (ls.getD j [])) ∧ Hid (Below w.heap.size w wr)) (fun iv _ => n - (intOf iv).toNat)
  case atStart => exact ⟨0, Nat.zero_le _, rfl, (fun j hj => by omega : ∀ j, j < 0 → Up (ls.getD j [])), Below.refl _ _⟩
  case round =>
    obtain ⟨i, hi, rfl, hsm, B⟩ := hrel
    by_cases hlt : i < n
    · have j1 : (i : Int) < (n : Int) := by omega
      have j2 : (0 : Int) ≤ (i : Int) := by omega
      obtain ⟨b, off, x, m, k, rfl, hb, c1, hU⟩ := hc.out.cells i hlt
      have c1i : wr.cell? ⟨b, off + i, none⟩ = some (.slice x m k) := (B.out.cell (p := ⟨b, off + i, none⟩) hb).trans c1
      have hm : ls.getD i [] ∈ ls := mem_getD (by rw [hl.out]; exact hlt)
      have CK := hide (rcheck_any wr x m k _ (hU.kept B.out (Nat.le_refl _)) (by rw [← hU.hlen]; exact hs.out _ hm))
      clear c1 hU
      have hgo : Hid (Up (ls.getD i []) → ∀ j, j < i + 1 → Up (ls.getD j [])) := fun e j hj => by
        rcases Nat.lt_or_ge j i with h | h
        · exact hsm.out j h
        · obtain rfl : j = i := by omega
          exact e
      have hno : Hid (¬ Up (ls.getD i []) → allE ls = 2) := fun e => allE_no (fun h => e (h _ hm))
      have j4 : i + 1 ≤ n := by omega
      by_cases he : Up (ls.getD i [])
      · replace hgo := hide (hgo.out he)
        rw [upE_ok he] at CK
        replace he := hide he
        replace hm := hide hm
        go_wp2_with fail
        refine CK.out.mono ?_
        rintro e w2 ⟨rfl, B2⟩
        have B3 := hide (B.out.trans (B2.mono B.out.size))
        clear B2
        go_wp2_with fail
        go_roundw
        case rel => exact ⟨i + 1, j4, by go_num, hgo, B3⟩
        case measure => simp [intOf]; omega
      · have hd := hide (hno.out he)
        rw [upE_no he] at CK
        replace he := hide he
        replace hm := hide hm
        go_wp2_with fail
        refine CK.out.mono ?_
        rintro e w2 ⟨rfl, B2⟩
        have B3 := hide (B.out.trans (B2.mono B.out.size))
        clear B2
        go_wp2_with fail
        go_ret
        exact ⟨ret_int hd.out.symm, B3.out⟩
    · obtain rfl : i = n := by omega
      have j1 : ¬ (i : Int) < (i : Int) := by omega
      go_wp2_with fail
      go_ret
      refine ⟨ret_int (Eq.symm (allE_ok fun l hm => ?_)), B.out⟩
      obtain ⟨j, hj, rfl⟩ := List.getElem_of_mem hm
      have := hsm.out j (by rw [← hl.out]; exact hj)
      simpa [List.getD, List.getElem?_eq_getElem hj] using this
end Go.Proofs.Ythkfbdcocnhebaa
