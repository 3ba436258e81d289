/-
  BinarySearch of a text that is there; Find; Among.
-/
import Derived.Test.YtbinnpadmajgpaaC
namespace Go.Proofs.Ytbinnpadmajgpaa
open Go.RowKit Go.Shelf
set_option linter.unusedVariables false
set_option linter.unusedSimpArgs false
set_option maxRecDepth 100000

set_option maxHeartbeats 1000000 in
theorem search_any (w : World) (a : Option Addr) (n c : Nat) (l : List Tx) (i0 : Nat) (h : HasS w a n c l) (hi0 : i0 < n) (hu : Asc l) (hs : n ≤ 1000000000) :
    Calls Try.prog 29 #[.slice a n c, encStr (l.getD i0 [])] w fun e w' => e = .returned (.tuple #[.int .i64 (i0 : Int), .bool true]) ∧ w' = w := by
  have hc := hide h
  have hl := hide h.hlen
  have i1 : (n : Int) ≤ 1000000000 := by omega
  have hlt : Hid (∀ m, m < n → (l.getD m [] < l.getD i0 [] ↔ m < i0)) := fun m hm => by
    have hl' := h.hlen
    rcases Nat.lt_trichotomy m i0 with k | k | k
    · exact ⟨fun _ => k, fun _ => asc_getD hu k (by omega)⟩
    · subst k; exact ⟨fun e => absurd e (List.lt_irrefl _), fun e => by omega⟩
    · exact ⟨fun e => absurd (List.lt_trans e (asc_getD hu k (by omega))) (List.lt_irrefl _), fun e => by omega⟩
  clear h hu
  generalize hx : l.getD i0 [] = x at *
  replace hx := hide hx
  go_enter Try.func29, Try.ntmps29
  go_wp2_with fail
  go_loopw [7, 8] (fun vi vj wr => ∃ i j : Nat, i ≤ i0 ∧ i0 ≤ j ∧ j ≤ n ∧ vi = .int .i64 (i : Int) ∧ vj = .int .i64 (j : Int) ∧ Hid (wr = w)) (fun vi vj _ => (intOf vj).toNat - (intOf vi).toNat)
  case atStart => exact ⟨0, n, Nat.zero_le _, Nat.le_of_lt hi0, Nat.le_refl _, rfl, rfl, (rfl : _ = _)⟩
  case round =>
    obtain ⟨i, j, hij, hij2, hjn, rfl, rfl, hw⟩ := hrel
    obtain rfl := hw.out
    by_cases hlt2 : i < j
    · have j1 : (i : Int) < (j : Int) := by omega
      obtain ⟨m, hm⟩ : ∃ m : Nat, ((i : Int) + (j : Int)) / 2 = (m : Int) := ⟨(i + j) / 2, by omega⟩
      have m1 : i ≤ m := by omega
      have m2 : m < j := by omega
      have j2 : (0 : Int) ≤ (m : Int) := by omega
      have j3 : (m : Int) < (n : Int) := by omega
      obtain ⟨b, off, rfl, hb, c1⟩ := hc.out.cells m (by omega)
      have hk := hide (hlt.out m (by omega))
      generalize l.getD m [] = t at *
      have LS := hide (less_any wr t x)
      by_cases ht : t < x
      · rw [decide_eq_true ht] at LS
        have hk2 := hk.out.1 ht
        replace ht := hide ht
        go_wp2_with fail
        refine LS.out.mono ?_
        rintro e w5 ⟨rfl, rfl⟩
        go_wp2_with fail
        go_roundw
        case rel => exact ⟨m + 1, j, by omega, hij2, hjn, by go_num, rfl, trivial⟩
        case measure => simp [intOf]; omega
      · rw [decide_eq_false ht] at LS
        have hk2 : ¬ m < i0 := fun e => ht (hk.out.2 e)
        replace ht := hide ht
        go_wp2_with fail
        refine LS.out.mono ?_
        rintro e w5 ⟨rfl, rfl⟩
        go_wp2_with fail
        go_roundw
        case rel => exact ⟨i, m, hij, by omega, by omega, rfl, rfl, trivial⟩
        case measure => simp [intOf]; omega
    · obtain rfl : i = j := by omega
      obtain rfl : i = i0 := by omega
      have j1 : ¬ (i : Int) < (i : Int) := by omega
      have j3 : (i : Int) < (n : Int) := by omega
      have j2 : (0 : Int) ≤ (i : Int) := by omega
      obtain ⟨b, off, rfl, hb, c1⟩ := hc.out.cells i hi0
      rw [hx.out] at c1
      have k1 : (x == x) = true := by simp
      go_wp2_with fail
      go_ret2
      exact ⟨rfl, rfl⟩
set_option maxHeartbeats 400000 in
theorem find_any (a : Addr) (n c : Nat) (L : List Tx) (i : Nat) (w : World) (h : HasS w (some a) n c L) (hi : i < n) (hu : Asc L) (hn : n ≤ 1000000000) : Calls Try.prog 15 #[.agg #[.slice (some a) n c], encStr (L.getD i [])] w fun e w' => e = .returned (.tuple #[.int .i64 (i : Int), .bool true]) ∧ Below w.heap.size w w' := by
  have B0 : Below w.heap.size w (w.alloc (.cells #[.slice (some a) n c] 27)) := (Below.refl _ w).alloc (Nat.le_refl _) _
  have H := hide (search_any _ _ n c L i (h.kept B0 (Nat.le_refl _)) hi hu hn)
  replace B0 := hide B0
  generalize L.getD i [] = x at *
  clear h hu
  go_enter Try.func15, Try.ntmps15
  go_wp2_with fail
  refine H.out.mono ?_
  rintro e w1 ⟨rfl, rfl⟩
  go_wp2_with fail
  go_ret2
  exact ⟨rfl, B0.out⟩

theorem among_val (x : Int) (n : Nat) (h1 : 1 ≤ n) : 0 ≤ (IntKind.u64.wrap x).tmod (n : Int) ∧ (IntKind.u64.wrap x).tmod (n : Int) < (n : Int) := by
  rw [IntKind.wrap_u64]
  have h : 0 ≤ x % 18446744073709551616 := Int.emod_nonneg _ (by decide)
  rw [Int.tmod_eq_emod_of_nonneg h]
  exact ⟨Int.emod_nonneg _ (by omega), Int.emod_lt_of_pos _ (by omega)⟩
theorem among_wrap (y : Int) {n : Nat} (v : 0 ≤ y ∧ y < (n : Int)) (h2 : n ≤ 9223372036854775807) : wrap64 y = ((y.toNat : Nat) : Int) := by
  unfold wrap64
  omega

set_option maxHeartbeats 400000 in
theorem among_any (x : Int) (n : Nat) (h1 : 1 ≤ n) (h2 : n ≤ 9223372036854775807) (w : World) :
    Calls Try.prog 16 #[.int .i64 x, .int .i64 (n : Int)] w fun e w' => ∃ r : Nat, e = .returned (.int .i64 (r : Int)) ∧ r < n ∧ w' = w := by
  have hn : (1 : Int) ≤ (n : Int) := by omega
  have hn' : (n : Int) ≤ 9223372036854775807 := by omega
  go_enter Try.func16, Try.ntmps16
  go_wp2
  go_ret
  have v := among_val x n h1
  exact ⟨_, ret_int (among_wrap _ v h2), by omega, rfl⟩
end Go.Proofs.Ytbinnpadmajgpaa
