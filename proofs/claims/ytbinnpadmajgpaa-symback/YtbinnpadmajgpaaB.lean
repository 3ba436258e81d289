/-
  Rows of texts in memory, and the small functions: isTooLong, Len, isVoid, last, Get, Less, common.
-/
import Derived.Test.YtbinnpadmajgpaaA
import Derived.Test.YtbinnpadmajgpaaVP
import Derived.Sort.EncStr
import Derived.Shelf.Abstract
import Derived.Deep.Cut
import Derived.Sort.Walk0
import Derived.BigQuiet
import Derived.Deep.QuietTactic
namespace Go.Proofs.Ytbinnpadmajgpaa
open Go.RowKit Go.Shelf
set_option linter.unusedVariables false
set_option maxRecDepth 100000
set_option linter.unusedSimpArgs false

theorem hide {p : Prop} (h : p) : Hid p := h
theorem v64 {a b : Int} (h : a = b) : Value.int .i64 a = .int .i64 b := by rw [h]
theorem ret_int {k : IntKind} {a b : Int} (h : a = b) : Ending.returned (.int k a) = .returned (.int k b) := by rw [h]
theorem ret_bool {a b : Bool} (h : a = b) : Ending.returned (.bool a) = .returned (.bool b) := by rw [h]
theorem add_plain (b off j : Nat) : (⟨b, off, none⟩ : Addr).add j = ⟨b, off + j, none⟩ := by unfold Addr.add; split <;> simp_all
theorem str_size (s : Tx) : (⟨s.toArray⟩ : ByteArray).size = s.length := by simp [ByteArray.size]
theorem str_list (s : Tx) : (⟨s.toArray⟩ : ByteArray).toList = s := by rw [ByteArray.toList_eq]

/-- In the world w the slice has the texts l. -/
structure HasS (w : World) (a : Option Addr) (len cap : Nat) (l : List Tx) : Prop where
  hlen : l.length = len
  le : len ≤ cap
  capb : cap ≤ maxLen
  form : (a = none ∧ cap = 0) ∨ ∃ b off, a = some ⟨b, off, none⟩
  cells : ∀ i, i < len → ∃ b off, a = some ⟨b, off, none⟩ ∧ b < w.heap.size ∧ w.cell? ⟨b, off + i, none⟩ = some (encStr (l.getD i []))
theorem HasS.kept {w w' : World} {a : Option Addr} {n c B : Nat} {l : List Tx} (h : HasS w a n c l) (hb : Below B w w') (hB : w.heap.size ≤ B) : HasS w' a n c l :=
  ⟨h.hlen, h.le, h.capb, h.form, fun i hi => by
    obtain ⟨b, off, e1, e2, e3⟩ := h.cells i hi
    exact ⟨b, off, e1, Nat.lt_of_lt_of_le e2 hb.size, (World.cell?_of_block (hb.block b (by omega))).trans e3⟩⟩
theorem hasS_of_owns {w : World} {base : Nat} {v : Value} {n : Nat} {l : List Tx} (h : w.ownsRow base 9 1 v n (l.map encStr)) : ∃ a c, v = .slice a n c ∧ HasS w a n c l := by
  have hlen : l.length = n := by simpa using h.1
  rcases h.2 with ⟨rfl, rfl⟩ | ⟨g, cap, cur, rfl, hbg, hg, hnc, hcm, hcs, htake⟩
  · exact ⟨none, 0, rfl, hlen, Nat.le_refl _, Nat.zero_le _, .inl ⟨rfl, rfl⟩, fun i hi => by omega⟩
  · refine ⟨some ⟨g, 0, none⟩, cap, rfl, hlen, hnc, hcm, .inr ⟨g, 0, rfl⟩, fun i hi => ?_⟩
    have := h.cells (g := g) rfl i (encStr (l.getD i [])) (by
      have hi' : i < l.length := by omega
      simp [List.getD, List.getElem?_eq_getElem hi'])
    rw [add_plain] at this
    exact ⟨g, 0, rfl, (Array.getElem?_eq_some_iff.1 hg).1, this⟩
/-- A table. -/
def TabV (w : World) (v : Value) (L : List Tx) : Prop := ∃ a n c, v = .agg #[.slice (some a) n c] ∧ HasS w (some a) n c L
/-- A table that no call made. -/
def voidV : Value := .agg #[.slice none 0 0]
theorem TabV.kept {w w' : World} {v : Value} {L : List Tx} {B : Nat} (h : TabV w v L) (hb : Below B w w') (hB : w.heap.size ≤ B) : TabV w' v L := by
  obtain ⟨a, n, c, e, H⟩ := h
  exact ⟨a, n, c, e, H.kept hb hB⟩

set_option maxHeartbeats 400000 in
theorem tooLong_any (s : Tx) (w : World) : Calls Try.prog 18 #[encStr s] w fun e w' => e = .returned (.bool (decide (256 < s.length))) ∧ w' = w := by
  have hs := str_size s
  obtain ⟨n, hn⟩ : ∃ n, s.length = n := ⟨_, rfl⟩
  rw [hn] at hs ⊢
  replace hn := hide hn
  go_enter Try.func18, Try.ntmps18
  go_wp2
  go_ret
  exact ⟨ret_bool (by simp [hs]; omega), rfl⟩
set_option maxHeartbeats 400000 in
theorem void_any (a : Option Addr) (n c : Nat) (w : World) : Calls Try.prog 21 #[.slice a n c] w fun e w' => e = .returned (.bool a.isNone) ∧ w' = w := by
  have eql_nil := Lib.run_eql_slice_nil (P := Try.prog) w 25 9 a n c 0 0 Try.underlying25
  go_enter Try.func21, Try.ntmps21
  go_wp2
  go_ret
  exact ⟨rfl, rfl⟩
set_option maxHeartbeats 400000 in
theorem len_any (a : Option Addr) (n c : Nat) (w : World) : Calls Try.prog 13 #[.agg #[.slice a n c]] w fun e w' => e = .returned (.int .i64 n) ∧ Below w.heap.size w w' := by
  go_enter Try.func13, Try.ntmps13
  go_wp2
  go_ret
  exact ⟨rfl, (Below.refl _ w).alloc (Nat.le_refl _) _⟩
set_option maxHeartbeats 400000 in
theorem last_any (a : Option Addr) (n c : Nat) (L : List Tx) (w : World) (h : HasS w a n c L) (hn : n ≤ 1000000000) : Calls Try.prog 42 #[.slice a n c] w fun e w' => e = .returned (encStr (lastT [] L)) ∧ w' = w := by
  have hl := h.hlen
  by_cases h0 : n = 0
  · subst h0
    obtain rfl : L = [] := List.eq_nil_of_length_eq_zero hl
    go_enter Try.func42, Try.ntmps42
    go_wp2
    go_ret
    exact ⟨rfl, rfl⟩
  · obtain ⟨m, hm⟩ : ∃ m, n = m + 1 := ⟨n - 1, by omega⟩
    obtain ⟨b, off, rfl, hb, hc⟩ := h.cells m (by omega)
    have e := lastT_getD L [] (by omega)
    rw [show L.length - 1 = m by omega] at e
    rw [← e] at hc
    generalize lastT [] L = s at *
    clear e h
    have k1 : (n : Int) - 1 = (m : Int) := by omega
    have k2 : (m : Int) < (n : Int) := by omega
    have k3 : (0 : Int) ≤ (m : Int) := by omega
    have k4 : ((n : Int) == 0) = false := by simp; omega
    have k5 : (n : Int) ≤ 1000000000 := by omega
    have k6 : (0 : Int) < (n : Int) := by omega
    clear hm hl h0 hn
    go_enter Try.func42, Try.ntmps42
    go_wp2
    go_ret
    exact ⟨rfl, rfl⟩
set_option maxHeartbeats 400000 in
theorem nan44 (w : World) (x : Tx) : Calls Try.prog 44 #[encStr x] w fun e w' => e = .returned (.bool false) ∧ w' = w := by
  go_enter Try.func44, Try.ntmps44
  go_wp2
  go_ret
  exact ⟨rfl, rfl⟩
set_option maxHeartbeats 400000 in
theorem nan51 (w : World) (x : Tx) : Calls Try.prog 51 #[encStr x] w fun e w' => e = .returned (.bool false) ∧ w' = w := by
  go_enter Try.func51, Try.ntmps51
  go_wp2
  go_ret
  exact ⟨rfl, rfl⟩
set_option maxHeartbeats 400000 in
theorem less_any (w : World) (x y : Tx) : Calls Try.prog 43 #[encStr x, encStr y] w fun e w' => e = .returned (.bool (decide (x < y))) ∧ w' = w := by
  have H := hide (fun w => nan51 w x)
  go_enter Try.func43, Try.ntmps43
  go_wp2_with fail
  refine (H.out _).mono ?_
  rintro e w1 ⟨rfl, rfl⟩
  go_wp2_with fail
  go_ret
  exact ⟨ret_bool (bytesLess_eq x y), rfl⟩
end Go.Proofs.Ytbinnpadmajgpaa
