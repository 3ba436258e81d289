/-
  cmp.Less, isNaN; slices.BinarySearch of numbers that rise; Has.
-/
import Derived.Test.YthkfbdcocnhebaaN
namespace Go.Proofs.Ythkfbdcocnhebaa
open Go.RowKit
set_option linter.unusedVariables false
set_option linter.unusedSimpArgs false

set_option maxHeartbeats 400000 in
theorem nan_any (w : World) (x : Int) : Calls Try.prog 60 #[.int .u64 x] w fun e w' => e = .returned (.bool false) ∧ w' = w := by
  go_enter Try.func60, Try.ntmps60
  go_wp2
  go_ret
  exact ⟨ret_bool (by simp), rfl⟩
set_option maxHeartbeats 400000 in
theorem nan2_any (w : World) (x : Int) : Calls Try.prog 69 #[.int .u64 x] w fun e w' => e = .returned (.bool false) ∧ w' = w := by
  go_enter Try.func69, Try.ntmps69
  go_wp2
  go_ret
  exact ⟨ret_bool (by simp), rfl⟩
set_option maxHeartbeats 400000 in
theorem less_any (w : World) (x y : Int) : Calls Try.prog 59 #[.int .u64 x, .int .u64 y] w fun e w' => e = .returned (.bool (decide (x < y))) ∧ w' = w := by
  have N := hide (nan2_any w x)
  go_enter Try.func59, Try.ntmps59
  go_wp2_with fail
  refine N.out.mono ?_
  rintro e w1 ⟨rfl, rfl⟩
  go_wp2_with fail
  go_ret
  exact ⟨rfl, rfl⟩
/-- Where a number stands in a rising list, or would. -/
def pos (l : List Int) (x : Int) : Nat := (l.filter (fun y => decide (y < x))).length
theorem pos_le (l : List Int) (x : Int) : pos l x ≤ l.length := List.length_filter_le _ _
theorem filter_all {l : List Int} {p : Int → Bool} (h : ∀ y ∈ l, p y = true) : l.filter p = l := List.filter_eq_self.2 h
theorem filter_none {l : List Int} {p : Int → Bool} (h : ∀ y ∈ l, p y = false) : l.filter p = [] := List.filter_eq_nil_iff.2 (fun y hy => by rw [h y hy]; simp)
theorem pos_split {l : List Int} {x : Int} {i : Nat} (hi : i ≤ l.length) (h1 : ∀ j, j < i → l.getD j 0 < x) (h2 : ∀ j, i ≤ j → j < l.length → x ≤ l.getD j 0) : pos l x = i := by
  unfold pos
  have e : l = l.take i ++ l.drop i := (List.take_append_drop i l).symm
  have a1 : (l.take i).filter (fun y => decide (y < x)) = l.take i := filter_all (fun y hy => by
    obtain ⟨j, hj, rfl⟩ := List.getElem_of_mem hy
    rw [List.length_take] at hj
    have := h1 j (by omega)
    simp [List.getD, List.getElem?_eq_getElem (show j < l.length by omega)] at this
    simpa using this)
  have a2 : (l.drop i).filter (fun y => decide (y < x)) = [] := filter_none (fun y hy => by
    obtain ⟨j, hj, rfl⟩ := List.getElem_of_mem hy
    simp at hj
    have := h2 (i + j) (by omega) (by omega)
    simp [List.getD, List.getElem?_eq_getElem (show i + j < l.length by omega)] at this
    simpa using this)
  have : l.filter (fun y => decide (y < x)) = l.take i := by
    conv => lhs; rw [e]
    rw [List.filter_append, a1, a2, List.append_nil]
  rw [this, List.length_take]
  omega
theorem up_getD {l : List Int} (h : Up l) {i j : Nat} (hij : i < j) (hj : j < l.length) : l.getD i 0 < l.getD j 0 := by
  have := List.pairwise_iff_getElem.1 h i j (by omega) hj hij
  simpa [List.getD, List.getElem?_eq_getElem (show i < l.length by omega), List.getElem?_eq_getElem hj] using this
set_option maxHeartbeats 4000000 in
set_option maxRecDepth 100000 in
theorem search_any (w : World) (a : Option Addr) (n c : Nat) (l : List Int) (x : Int) (h : HasU w a n c l) (hu : Up l) (hs : n ≤ 1000000000) :
    Calls Try.prog 49 #[.slice a n c, .int .u64 x] w fun e w' => e = .returned (.tuple #[.int .i64 ((pos l x : Nat) : Int), .bool (decide (x ∈ l))]) ∧ w' = w := by
  have hc := hide h
  have hl := hide h.hlen
  have i1 : (n : Int) ≤ 1000000000 := by omega
  replace hu := hide hu
  clear h
  go_enter Try.func49, Try.ntmps49
  go_wp2_with fail
  go_loopw [7, 8] (fun vi vj wr => ∃ i j : Nat, i ≤ j ∧ j ≤ n ∧ vi = .int .i64 (i : Int) ∧ vj = .int .i64 (j : Int) ∧ Hid (∀ k, k < i → l.getD k 0 < x) ∧ Hid (∀ k, j ≤ k → k < l.length → x ≤ l.getD k 0) ∧ Hid (wr = w)) (fun vi vj _ => (intOf vj).toNat - (intOf vi).toNat)
  case atStart => exact ⟨0, n, Nat.zero_le _, Nat.le_refl _, rfl, rfl, (fun k hk => by omega : ∀ k, k < 0 → l.getD k 0 < x), (fun k h1 h2 => by rw [hl.out] at h2; omega : ∀ k, n ≤ k → k < l.length → x ≤ l.getD k 0), (rfl : _ = _)⟩
  case round =>
    obtain ⟨i, j, hij, hjn, rfl, rfl, h1, h2, hw⟩ := hrel
    obtain rfl := hw.out
    by_cases hlt : i < j
    · have j1 : (i : Int) < (j : Int) := by omega
      obtain ⟨m, hm⟩ : ∃ m : Nat, ((i : Int) + (j : Int)) / 2 = (m : Int) := ⟨(i + j) / 2, by omega⟩
      have m1 : i ≤ m := by omega
      have m2 : m < j := by omega
      have j2 : (0 : Int) ≤ (m : Int) := by omega
      have j3 : (m : Int) < (n : Int) := by omega
      obtain ⟨b, off, rfl, hb, c1, _⟩ := hc.out.at m (by omega)
      have hml : m < l.length := by rw [hl.out]; omega
      have hup : Hid (l.getD m 0 < x → ∀ k, k < m + 1 → l.getD k 0 < x) := fun e k hk => by
        rcases Nat.lt_or_ge k m with h | h
        · have := up_getD hu.out h hml; omega
        · obtain rfl : k = m := by omega
          exact e
      have hdn : Hid (x ≤ l.getD m 0 → ∀ k, m ≤ k → k < l.length → x ≤ l.getD k 0) := fun e k hk hkl => by
        rcases Nat.lt_or_ge m k with h | h
        · have := up_getD hu.out h hkl; omega
        · obtain rfl : k = m := by omega
          exact e
      clear hml
      generalize l.getD m 0 = t at *
      have LS := hide (less_any wr t x)
      by_cases ht : t < x
      · rw [decide_eq_true ht] at LS
        replace hup := hide (hup.out ht)
        go_wp2_with fail
        refine LS.out.mono ?_
        rintro e w5 ⟨rfl, rfl⟩
        go_wp2_with fail
        go_roundw
        case rel => exact ⟨m + 1, j, by omega, hjn, by go_num, rfl, hup, h2, trivial⟩
        case measure => simp [intOf]; omega
      · rw [decide_eq_false ht] at LS
        replace hdn := hide (hdn.out (by omega))
        go_wp2_with fail
        refine LS.out.mono ?_
        rintro e w5 ⟨rfl, rfl⟩
        go_wp2_with fail
        go_roundw
        case rel => exact ⟨i, m, m1, by omega, rfl, rfl, h1, hdn, trivial⟩
        case measure => simp [intOf]; omega
    · obtain rfl : i = j := by omega
      have j1 : ¬ (i : Int) < (i : Int) := by omega
      have hpos : Hid (pos l x = i) := pos_split (by rw [hl.out]; exact hjn) h1.out h2.out
      by_cases hin : i < n
      · have j3 : (i : Int) < (n : Int) := by omega
        have j2 : (0 : Int) ≤ (i : Int) := by omega
        obtain ⟨b, off, rfl, hb, c1, _⟩ := hc.out.at i hin
        have hil : i < l.length := by rw [hl.out]; exact hin
        have hmem : Hid (x ∈ l ↔ l.getD i 0 = x) := by
          constructor
          · intro hx
            obtain ⟨k, hk, rfl⟩ := List.getElem_of_mem hx
            have e : l.getD k 0 = l[k] := by simp [List.getD, List.getElem?_eq_getElem hk]
            rcases Nat.lt_trichotomy k i with h | h | h
            · have := h1.out k h; omega
            · subst h; exact e
            · have := h2.out i (Nat.le_refl _) hil
              have := up_getD hu.out h hk
              omega
          · intro e; rw [← e]; exact getD_mem hil
        clear hil
        generalize l.getD i 0 = t at *
        have NN := hide (nan_any wr t)
        by_cases he : t = x
        · have k1 : (t == x) = true := by simpa using he
          have hd : Hid (decide (x ∈ l) = true) := decide_eq_true (hmem.out.2 he)
          subst he
          go_wp2_with fail
          go_ret2
          exact ⟨(by rw [hpos.out, hd.out]; try rfl), rfl⟩
        · have k1 : (t == x) = false := by simpa using he
          have hd : Hid (decide (x ∈ l) = false) := decide_eq_false (fun h => he (hmem.out.1 h))
          replace he := hide he
          go_wp2_with fail
          refine NN.out.mono ?_
          rintro e w5 ⟨rfl, rfl⟩
          go_wp2_with fail
          go_ret2
          exact ⟨(by rw [hpos.out, hd.out]; try rfl), rfl⟩
      · obtain rfl : i = n := by omega
        have j3 : ¬ (i : Int) < (i : Int) := by omega
        have hd : Hid (decide (x ∈ l) = false) := decide_eq_false (fun hx => by
          obtain ⟨k, hk, rfl⟩ := List.getElem_of_mem hx
          have := h1.out k (by rw [← hl.out]; exact hk)
          simp [List.getD, List.getElem?_eq_getElem hk] at this)
        go_wp2_with fail
        go_ret2
        exact ⟨(by rw [hpos.out, hd.out]; try rfl), rfl⟩
set_option maxHeartbeats 1000000 in
theorem has_any (w : World) (a : Option Addr) (na ca : Nat) (la : List Int) (Ha : HasU w a na ca la) (hna : na ≤ 100000) (n : Int) : Calls Try.prog 23 #[.slice a na ca, .int .u64 n] w (RetH w la n) := by
  have C1 := hide (check_any w a na ca la Ha (by omega))
  have hKa := hide Ha
  clear Ha
  unfold RetH
  by_cases hu : Up la
  · rw [decide_and_ok hu, upE_ok hu]
    rw [upE_ok hu] at C1
    replace hu := hide hu
    go_enter Try.func23, Try.ntmps23
    go_wp2_with fail
    refine C1.out.mono ?_
    rintro e w1 ⟨rfl, B1⟩
    have IN := hide (search_any w1 a na ca la n (hKa.out.kept B1 (Nat.le_refl _)) hu.out (by omega))
    replace B1 := hide B1
    go_wp2_with fail
    refine IN.out.mono ?_
    rintro e w2 ⟨rfl, rfl⟩
    go_wp2_with fail
    go_ret2
    exact ⟨rfl, B1.out⟩
  · rw [decide_and_no hu, upE_no hu]
    rw [upE_no hu] at C1
    replace hu := hide hu
    go_enter Try.func23, Try.ntmps23
    go_wp2_with fail
    refine C1.out.mono ?_
    rintro e w1 ⟨rfl, B1⟩
    replace B1 := hide B1
    go_wp2_with fail
    go_ret2
    exact ⟨rfl, B1.out⟩
end Go.Proofs.Ythkfbdcocnhebaa
