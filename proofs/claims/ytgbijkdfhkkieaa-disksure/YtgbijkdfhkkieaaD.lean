/-
  areNames, check, isOn, done, mend, begin, find, beginWith; Fuse, Room, Steps, Used; sectors and has of a file.
-/
import Derived.Test.YtgbijkdfhkkieaaC
namespace Go.Proofs.Ytgbijkdfhkkieaa
open Go.RowKit Go.Maps Go.Lib
set_option linter.unusedVariables false
set_option linter.unusedSimpArgs false

set_option maxHeartbeats 2000000 in
theorem areNames_row (w : World) (g n c : Nat) (ss : List ByteArray) (hl : ss.length = n) (hn : n ≤ 1000) (hc : ∀ i, i < n → w.cell? ⟨g, i, none⟩ = some (.string (ss.getD i ByteArray.empty))) :
    Calls Try.prog 79 #[.slice (some ⟨g, 0, none⟩) n c] w fun e w' => e = .returned (.bool (ss.all nameOk)) ∧ w' = w := by
  replace hc := hide hc
  replace hl := hide hl
  go_enter Try.func79, Try.ntmps79
  go_wp2
  go_loopw [4, 7] (fun _ i wr => ∃ k : Nat, k ≤ n ∧ i = .int .i64 k ∧ wr = w ∧ Hid (∀ j, j < k → nameOk (ss.getD j ByteArray.empty) = true)) (fun _ i _ => n - (intOf i).toNat)
  case atStart => exact ⟨0, Nat.zero_le _, rfl, rfl, (fun j hj => by omega : ∀ j, j < 0 → nameOk (ss.getD j ByteArray.empty) = true)⟩
  case round =>
    obtain ⟨k, hk, rfl, hw, ht⟩ := hrel
    replace hw := hw.symm
    subst hw
    by_cases hkl : k < n
    · have j1 : (k : Int) < (n : Int) := by omega
      have q := hc.out k hkl
      obtain ⟨s, hs⟩ : ∃ s, s = ss.getD k ByteArray.empty := ⟨_, rfl⟩
      rw [← hs] at q
      replace hs := hide hs
      cases ha : nameOk s with
      | true =>
        have ht2 : Hid (∀ j, j < k + 1 → nameOk (ss.getD j ByteArray.empty) = true) := fun j hj => by
          rcases Nat.lt_succ_iff_lt_or_eq.1 hj with h' | h'
          · exact ht.out j h'
          · rw [h', ← hs.out]; exact ha
        go_wp2_with (go_at_call 87; refine (isName_any _ _).mono ?_; rintro e w' ⟨rfl, hw⟩; replace hw := hw.symm; subst hw; rw [ha])
        go_roundw
        case rel => exact ⟨k + 1, by omega, by go_num, (by first | trivial | rfl), ht2⟩
        case measure => simp [intOf]; omega
      | false =>
        have fin : Hid (ss.all nameOk = false) := by
          show ss.all nameOk = false
          rw [List.all_eq_false]
          have hk' : k < ss.length := by rw [hl.out]; exact hkl
          refine ⟨s, ?_, by rw [ha]; decide⟩
          rw [hs.out, List.getD_eq_getElem?_getD, List.getElem?_eq_getElem hk']
          exact List.getElem_mem hk'
        go_wp2_with (go_at_call 87; refine (isName_any _ _).mono ?_; rintro e w' ⟨rfl, hw⟩; replace hw := hw.symm; subst hw; rw [ha])
        go_ret
        exact ⟨by rw [fin.out]; rfl, rfl⟩
    · obtain rfl : k = n := by omega
      have fin : Hid (ss.all nameOk = true) := by
        show ss.all nameOk = true
        rw [List.all_eq_true]
        intro x hx
        obtain ⟨i, hi, rfl⟩ := List.getElem_of_mem hx
        have := ht.out i (by rw [← hl.out]; exact hi)
        rwa [List.getD_eq_getElem?_getD, List.getElem?_eq_getElem hi] at this
      go_wp2
      go_ret
      exact ⟨by rw [fin.out]; rfl, rfl⟩
set_option maxHeartbeats 1000000 in
theorem areNames_nil (w : World) : Calls Try.prog 79 #[.slice none 0 0] w fun e w' => e = .returned (.bool true) ∧ w' = w := by
  go_enter Try.func79, Try.ntmps79
  go_wp2
  go_loopw [4, 7] (fun _ i wr => i = .int .i64 0 ∧ wr = w) (fun _ i _ => 0)
  case atStart => exact ⟨rfl, rfl⟩
  case round =>
    obtain ⟨rfl, rfl⟩ := hrel
    go_wp2
    go_ret
    exact ⟨rfl, rfl⟩
/-- A slice of names. -/
def Nms (w : World) (a : Option Addr) (n c : Nat) (ss : List ByteArray) : Prop :=
  (a = none ∧ n = 0 ∧ c = 0 ∧ ss = []) ∨ ∃ g, a = some ⟨g, 0, none⟩ ∧ ss.length = n ∧ n ≤ 1000 ∧ ∀ i, i < n → w.cell? ⟨g, i, none⟩ = some (.string (ss.getD i ByteArray.empty))
theorem areNames_any {w : World} {a : Option Addr} {n c : Nat} {ss : List ByteArray} (h : Nms w a n c ss) : Calls Try.prog 79 #[.slice a n c] w fun e w' => e = .returned (.bool (ss.all nameOk)) ∧ w' = w := by
  rcases h with ⟨rfl, rfl, rfl, rfl⟩ | ⟨g, rfl, h1, h2, h3⟩
  · exact areNames_nil w
  · exact areNames_row w g n c ss h1 h2 h3
theorem nms_nil (w : World) : Nms w none 0 0 [] := .inl ⟨rfl, rfl, rfl, rfl⟩
theorem nms_one (w : World) (s : ByteArray) : Nms (w.alloc (.cells #[.string s] 9)) (some ⟨w.heap.size, 0, none⟩) 1 1 [s] := by
  refine .inr ⟨_, rfl, rfl, by omega, fun i hi => ?_⟩
  obtain rfl : i = 0 := by omega
  rw [(Bx.new w 9 #[.string s]).cell 0]; rfl
theorem nms_two (w : World) (s t : ByteArray) : Nms (w.alloc (.cells #[.string s, .string t] 9)) (some ⟨w.heap.size, 0, none⟩) 2 2 [s, t] := by
  refine .inr ⟨_, rfl, rfl, by omega, fun i hi => ?_⟩
  rw [(Bx.new w 9 #[.string s, .string t]).cell i]
  rcases i with _ | _ | i
  · rfl
  · rfl
  · omega

section
variable {w : World} {d bf bs : Nat} {m : M} {T : Nat → Prop} {V : Nat → Value × Value}
set_option maxHeartbeats 1000000 in
theorem check_any (h : Dk w d m T bf bs V) {a : Option Addr} {n c : Nat} {ss : List ByteArray} (hN : Nms w a n c ss) : Calls Try.prog 56 #[ptr d, .slice a n c] w fun e w' => e = .returned (.int .i64 (if ss.all nameOk then 0 else 2)) ∧ w' = w := by
  cases hk : ss.all nameOk with
  | true =>
    go_enter Try.func56, Try.ntmps56
    go_wp2_with fail
    refine (isMade_any h).mono ?_
    rintro e w' ⟨rfl, hw⟩; replace hw := hw.symm; subst hw
    go_wp2_with fail
    refine (areNames_any hN).mono ?_
    rintro e w' ⟨rfl, hw⟩; replace hw := hw.symm; subst hw
    rw [hk]
    go_wp2_with fail
    go_ret
    exact ⟨rfl, rfl⟩
  | false =>
    go_enter Try.func56, Try.ntmps56
    go_wp2_with fail
    refine (isMade_any h).mono ?_
    rintro e w' ⟨rfl, hw⟩; replace hw := hw.symm; subst hw
    go_wp2_with fail
    refine (areNames_any hN).mono ?_
    rintro e w' ⟨rfl, hw⟩; replace hw := hw.symm; subst hw
    rw [hk]
    go_wp2_with fail
    go_ret
    exact ⟨rfl, rfl⟩
theorem pw_same (m : M) : (pw m).files = m.files ∧ (pw m).sure = m.sure ∧ (pw m).ids = m.ids ∧ (pw m).ct = m.ct ∧ (pw m).n = m.n ∧ (pw m).left = m.left ∧ (pw m).steps = m.steps ∧ (pw m).room = m.room ∧ (pw m).used = m.used := by
  unfold pw; split <;> exact ⟨rfl, rfl, rfl, rfl, rfl, rfl, rfl, rfl, rfl⟩
set_option maxHeartbeats 1000000 in
theorem isOn_any (h : Dk w d m T bf bs V) : Calls Try.prog 68 #[ptr d] w fun e w' => e = .returned (.bool (!(pw m).gone)) ∧ Dk w' d (pw m) T bf bs V ∧ But (fun x => x = d) w w' := by
  obtain ⟨c0, c1, c2, c3, c4, c5, c6⟩ := h.cs
  have f1 := h.dk.fz 1
  by_cases hl : m.left = 0
  · have e : pw m = { m with gone := true } := if_pos hl
    have D1 := hide (h.disk (m' := { m with gone := true }) (but_setCell w d 1 (.bool true)) (h.dk.set1 1 (.bool true)) rfl rfl rfl rfl rfl)
    have b1 := hide (but_setCell w d 1 (.bool true))
    rw [e]
    rw [hl] at c0
    clear h e hl c2 c3 c4 c5 c6
    go_enter Try.func68, Try.ntmps68
    go_wp2
    go_ret
    exact ⟨rfl, D1.out, b1.out⟩
  · have e : pw m = m := if_neg hl
    rw [e]
    have hl' : (m.left == 0) = false := beq_eq_false_iff_ne.2 hl
    replace h := hide h
    go_enter Try.func68, Try.ntmps68
    go_wp2
    go_ret
    exact ⟨rfl, h.out, But.refl _ _⟩
set_option maxHeartbeats 1000000 in
theorem done_any (h : Dk w d m T bf bs V) (hL : m.left ≤ 9223372036854775807) (hs : 0 ≤ m.steps ∧ m.steps ≤ 1099511627776) : Calls Try.prog 42 #[ptr d] w fun e w' => e = .returned (.int .i64 0) ∧ Dk w' d (dn m) T bf bs V ∧ But (fun x => x = d) w w' := by
  obtain ⟨c0, c1, c2, c3, c4, c5, c6⟩ := h.cs
  have f0 := h.dk.fz 0
  have f2 := h.dk.fz 2
  by_cases hl : 0 < m.left
  · have D1 := hide (h.disk (m' := dn m) ((but_setCell w d 0 (.int .i64 (m.left - 1))).trans (but_setCell _ d 2 (.int .i64 (m.steps + 1))) (fun _ _ e => e)) (by
      have := (h.dk.set1 0 (.int .i64 (m.left - 1))).set1 2 (.int .i64 (m.steps + 1))
      simpa [dcs, dn, hl] using this) rfl rfl rfl rfl rfl)
    have b1 := hide ((but_setCell w d 0 (.int .i64 (m.left - 1))).trans (but_setCell _ d 2 (.int .i64 (m.steps + 1))) (fun _ _ e => e))
    clear h c1 c3 c4 c5 c6
    go_enter Try.func42, Try.ntmps42
    go_wp2
    go_ret
    exact ⟨rfl, D1.out, b1.out⟩
  · have D1 := hide (h.disk (m' := dn m) (but_setCell w d 2 (.int .i64 (m.steps + 1))) (by
      have := h.dk.set1 2 (.int .i64 (m.steps + 1))
      simpa [dcs, dn, hl] using this) rfl rfl rfl rfl rfl)
    have b1 := hide (but_setCell w d 2 (.int .i64 (m.steps + 1)))
    clear h c1 c3 c4 c5 c6
    go_enter Try.func42, Try.ntmps42
    go_wp2
    go_ret
    exact ⟨rfl, D1.out, b1.out⟩
set_option maxHeartbeats 1000000 in
theorem mend_any (h : Dk w d m T bf bs V) : Calls Try.prog 38 #[ptr d] w fun e w' => e = .returned (.tuple #[]) ∧ Dk w' d { m with left := -1, gone := false } T bf bs V ∧ But (fun x => x = d) w w' := by
  obtain ⟨c0, c1, c2, c3, c4, c5, c6⟩ := h.cs
  have f0 := h.dk.fz 0
  have f1 := h.dk.fz 1
  have D1 := hide (h.disk (m' := { m with left := -1, gone := false }) ((but_setCell w d 0 (.int .i64 (-1))).trans (but_setCell _ d 1 (.bool false)) (fun _ _ e => e)) ((h.dk.set1 0 (.int .i64 (-1))).set1 1 (.bool false)) rfl rfl rfl rfl rfl)
  have b1 := hide ((but_setCell w d 0 (.int .i64 (-1))).trans (but_setCell _ d 1 (.bool false)) (fun _ _ e => e))
  clear h c2 c3 c4 c5 c6
  go_enter Try.func38, Try.ntmps38
  go_wp2
  go_end0
  exact ⟨rfl, D1.out, b1.out⟩
/-- What a step is refused for first. -/
def bg (m : M) (ok : Bool) : Int × M := if ok then (if (pw m).gone then 8 else 0, pw m) else (2, m)
set_option maxHeartbeats 1000000 in
theorem begin_any (h : Dk w d m T bf bs V) {a : Option Addr} {n c : Nat} {ss : List ByteArray} (hN : Nms w a n c ss) : Calls Try.prog 43 #[ptr d, .slice a n c] w fun e w' => e = .returned (.int .i64 (bg m (ss.all nameOk)).1) ∧ Dk w' d (bg m (ss.all nameOk)).2 T bf bs V ∧ But (fun x => x = d) w w' := by
  cases hk : ss.all nameOk with
  | true =>
    go_enter Try.func43, Try.ntmps43
    go_wp2_with fail
    refine (check_any h hN).mono ?_
    rintro e w' ⟨rfl, hw⟩; replace hw := hw.symm; subst hw
    simp only [hk, if_true]
    go_wp2_with fail
    refine (isOn_any h).mono ?_
    rintro e w1 ⟨rfl, D1, b1⟩
    replace D1 := hide D1
    replace b1 := hide b1
    cases hg : (pw m).gone with
    | true =>
      go_wp2_with fail
      go_ret
      exact ⟨by simp [bg, hg], D1.out, b1.out⟩
    | false =>
      go_wp2_with fail
      go_ret
      exact ⟨by simp [bg, hg], D1.out, b1.out⟩
  | false =>
    go_enter Try.func43, Try.ntmps43
    go_wp2_with fail
    refine (check_any h hN).mono ?_
    rintro e w' ⟨rfl, hw⟩; replace hw := hw.symm; subst hw
    simp only [hk, if_false, Bool.false_eq_true]
    go_wp2_with fail
    go_ret
    exact ⟨rfl, h, But.refl _ _⟩
set_option maxHeartbeats 1000000 in
theorem find_any (h : Dk w d m T bf bs V) {s : ByteArray} (hs : s.size ≤ maxLen) : Calls Try.prog 57 #[ptr d, .string s] w fun e w' => w' = w ∧ ((m.files.atKey (key s) .nil = .nil ∧ e = .returned (.tuple #[.pointer none, .int .i64 5])) ∨ ∃ g, m.files.atKey (key s) .nil = .held g ∧ g ∈ m.ids ∧ e = .returned (.tuple #[ptr g, .int .i64 0])) := by
  obtain ⟨c0, c1, c2, c3, c4, c5, c6⟩ := h.cs
  rcases look h.mf hs with ⟨e, r⟩ | ⟨g, e, r⟩
  · clear h
    go_enter Try.func57, Try.ntmps57
    go_wp2
    go_ret2
    exact ⟨rfl, .inl ⟨e, rfl⟩⟩
  · have hg := h.vf _ g e
    clear h
    go_enter Try.func57, Try.ntmps57
    go_wp2
    go_ret2
    exact ⟨rfl, .inr ⟨g, e, hg, rfl⟩⟩
end
end Go.Proofs.Ytgbijkdfhkkieaa
