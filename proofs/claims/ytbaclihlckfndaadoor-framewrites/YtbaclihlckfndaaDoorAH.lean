/-
  Write and the reference's Write, where they refuse.
-/
import Derived.Test.YtbaclihlckfndaaDoorAG
namespace Go.Proofs.YtbaclihlckfndaaDoor
open Go.RowKit Go.Shelf
set_option linter.unusedVariables false
section
attribute [local go_sem] Oper.semAt_some

set_option maxHeartbeats 1000000 in
theorem write_long (w : World) (number : Int) (a : Option Addr) (len cap : Nat) (ls : List (List Int)) (h : HasL w a len cap ls) (hl : len ≤ 12) (hs : ¬ ∀ x ∈ ls, x.length ≤ 65536) :
    Calls Tryd.prog 9 #[.int .i64 number, .slice a len cap] w (Refused w 3) := by
  have hcount := count_any w a len cap ls h hl
  have he : needE ls = (0, 3) := by unfold needE; rw [if_neg hs]
  rw [he] at hcount
  replace hcount := hide hcount
  clear h he
  refine (callsIn_wide (n := 5)).1 ?_
  refine callsIn_of_wp_marks Tryd.func9 rfl trivial ?_ rfl
  simp only [Tryd.ntmps9, List.size_toArray, List.length_cons, List.length_nil, Nat.reduceAdd, Nat.reduceSub, Array.replicate_succ, Array.replicate_zero, List.push_toArray, List.append_toArray, List.nil_append, List.cons_append]
  gi_wp2
  refine ⟨trivial, (callsIn_wide.2 hcount.out).mono ?_⟩
  rintro e w' ⟨rfl, hw'⟩
  replace hw' := hw'.symm
  subst hw'
  gi_wp2
  (try simp only [Exit.inBlock, Exit.then])
  refine ⟨_, results_tmp2 rfl _ _ _, ?_⟩
  exact ⟨rfl, rfl⟩

set_option maxHeartbeats 1000000 in
theorem write_arg (w : World) (number : Int) (hx : -9223372036854775808 ≤ number ∧ number ≤ 9223372036854775807) (a : Option Addr) (len cap : Nat) (ls : List (List Int)) (h : HasL w a len cap ls) (hl : len ≤ 12) (hs : ∀ x ∈ ls, x.length ≤ 65536)
    (hn : number < 0 ∨ 4294967295 < number ∨ 4294967296 < number + (needL ls : Nat)) :
    Calls Tryd.prog 9 #[.int .i64 number, .slice a len cap] w (Refused w 2) := by
  have hcount := count_any w a len cap ls h hl
  have he : needE ls = (((needL ls : Nat) : Int), 0) := by unfold needE; rw [if_pos hs]
  have hnb : needL ls ≤ 3600 := by
    have := needL_le hs ls.length
    rw [List.take_length] at this
    have := h.hlen
    omega
  rw [he] at hcount
  replace hcount := hide hcount
  have hisn := hide (isNumber_any w number)
  generalize needL ls = N at hcount hnb hn
  clear h he
  refine (callsIn_wide (n := 5)).1 ?_
  refine callsIn_of_wp_marks Tryd.func9 rfl trivial ?_ rfl
  simp only [Tryd.ntmps9, List.size_toArray, List.length_cons, List.length_nil, Nat.reduceAdd, Nat.reduceSub, Array.replicate_succ, Array.replicate_zero, List.push_toArray, List.append_toArray, List.nil_append, List.cons_append]
  gi_wp2
  refine ⟨trivial, (callsIn_wide.2 hcount.out).mono ?_⟩
  rintro e w' ⟨rfl, hw'⟩
  replace hw' := hw'.symm
  subst hw'
  gi_wp2
  refine ⟨trivial, (callsIn_wide.2 hisn.out).mono ?_⟩
  rintro e w'' ⟨rfl, hw''⟩
  replace hw'' := hw''.symm
  subst hw''
  by_cases hr : 0 ≤ number ∧ number ≤ 4294967295
  · rw [show decide (0 ≤ number ∧ number ≤ 4294967295) = true from decide_eq_true hr]
    have j1 : 4294967295 < number + (N : Int) - 1 := by omega
    gi_wp2
    (try simp only [Exit.inBlock, Exit.then])
    refine ⟨_, results_tmp2 rfl _ _ _, ?_⟩
    exact ⟨rfl, rfl⟩
  · rw [show decide (0 ≤ number ∧ number ≤ 4294967295) = false from decide_eq_false hr]
    gi_wp2
    (try simp only [Exit.inBlock, Exit.then])
    refine ⟨_, results_tmp2 rfl _ _ _, ?_⟩
    exact ⟨rfl, rfl⟩
end

set_option maxHeartbeats 1000000 in
theorem rwrite_long (w : World) (number : Int) (a : Option Addr) (len cap : Nat) (ls : List (List Int)) (h : HasL w a len cap ls) (hl : len ≤ 12) (hs : ¬ ∀ x ∈ ls, x.length ≤ 65536) :
    Calls Tryd.prog 10 #[.int .i64 number, .slice a len cap] w (Refused w 3) := by
  have hcount := rneed_any w a len cap ls h hl
  have he : needE ls = (0, 3) := by unfold needE; rw [if_neg hs]
  rw [he] at hcount
  replace hcount := hide hcount
  clear h he
  go_enter Tryd.func10, Tryd.ntmps10
  go_wp2_with (go_at_call 12; refine hcount.out.mono ?_; rintro e w' ⟨rfl, hw'⟩; replace hw' := hw'.symm; subst hw')
  go_ret2
  exact ⟨rfl, rfl⟩
set_option maxHeartbeats 1000000 in
theorem rwrite_arg (w : World) (number : Int) (hx : -9223372036854775808 ≤ number ∧ number ≤ 9223372036854775807) (a : Option Addr) (len cap : Nat) (ls : List (List Int)) (h : HasL w a len cap ls) (hl : len ≤ 12) (hs : ∀ x ∈ ls, x.length ≤ 65536)
    (hn : number < 0 ∨ 4294967295 < number ∨ 4294967296 < number + (needL ls : Nat)) :
    Calls Tryd.prog 10 #[.int .i64 number, .slice a len cap] w (Refused w 2) := by
  have hcount := rneed_any w a len cap ls h hl
  have he : needE ls = (((needL ls : Nat) : Int), 0) := by unfold needE; rw [if_pos hs]
  have hnb : needL ls ≤ 3600 := by
    have := needL_le hs ls.length
    rw [List.take_length] at this
    have := h.hlen
    omega
  rw [he] at hcount
  replace hcount := hide hcount
  generalize needL ls = N at hcount hnb hn
  have hnb2 : (N : Int) ≤ 3600 := by omega
  clear h he
  rcases (show number < 0 ∨ (0 ≤ number ∧ 4294967295 < number) ∨ (0 ≤ number ∧ ¬ 4294967295 < number ∧ 4294967295 - (N : Int) + 1 < number ∧ 0 < (N : Int)) by omega) with h1 | ⟨h0, h1⟩ | ⟨h0, h1, h2, h3⟩
  · go_enter Tryd.func10, Tryd.ntmps10
    go_wp2_with (go_at_call 12; refine hcount.out.mono ?_; rintro e w' ⟨rfl, hw'⟩; replace hw' := hw'.symm; subst hw')
    go_ret2
    exact ⟨rfl, rfl⟩
  · go_enter Tryd.func10, Tryd.ntmps10
    go_wp2_with (go_at_call 12; refine hcount.out.mono ?_; rintro e w' ⟨rfl, hw'⟩; replace hw' := hw'.symm; subst hw')
    go_ret2
    exact ⟨rfl, rfl⟩
  · go_enter Tryd.func10, Tryd.ntmps10
    go_wp2_with (go_at_call 12; refine hcount.out.mono ?_; rintro e w' ⟨rfl, hw'⟩; replace hw' := hw'.symm; subst hw')
    go_ret2
    exact ⟨rfl, rfl⟩
end Go.Proofs.YtbaclihlckfndaaDoor
