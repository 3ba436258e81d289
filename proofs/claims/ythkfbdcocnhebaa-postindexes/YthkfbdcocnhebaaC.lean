/-
  own, slices.Clone, the reference's Check; append of one number; lists of lists in memory; checkEach, checkMany.
-/
import Derived.Test.YthkfbdcocnhebaaB
namespace Go.Proofs.Ythkfbdcocnhebaa
open Go.RowKit
set_option linter.unusedVariables false
set_option linter.unusedSimpArgs false

set_option maxHeartbeats 1000000 in
theorem own_any (w : World) (a : Option Addr) (n c : Nat) (l : List Int) (h : HasU w a n c l) :
    Calls Try.prog 11 #[.slice a n c] w (RetU w (l.take 60)) := by
  have H := h.kept ((Below.refl w.heap.size w).alloc (Nat.le_refl _) (.cells #[] 24)) (Nat.le_refl _)
  have hB : Below w.heap.size w (w.alloc (.cells #[] 24)) := (Below.refl _ _).alloc (Nat.le_refl _) _
  have O := owns_empty w
  have hle := h.le
  have hcb := h.capb
  have hl := h.hlen
  have fin : ∀ k a' c' w', HasU w' a' k c' (l.take k) → l.take k = l.take 60 → Below w.heap.size (w.alloc (.cells #[] 24)) w' → w'.ownsRow w.heap.size 24 1 (.slice a' k c') k ((l.take k).map (Value.int .u64)) → RetU w (l.take 60) (.returned (.slice a' k c')) w' := fun k a' c' w' h1 h2 h3 h4 => ⟨a', k, c', rfl, h2 ▸ h1, hB.trans h3, fun b hb => (h4.lt b hb).1⟩
  replace fin := hide fin
  clear h
  unfold maxLen at hcb
  by_cases h6 : n ≤ 60
  · have e1 : min (n : Int) 60 = (n : Int) := by omega
    have i1 : (n : Int) ≤ 60 := by omega
    have i2 : ¬ (60 : Int) < (n : Int) := by omega
    have i3 : (n : Int) ≤ (c : Int) := by omega
    have et : l.take n = l.take 60 := by rw [List.take_of_length_le (by omega), List.take_of_length_le (by omega)]
    have H2 := hide (H.front n (Nat.le_refl _))
    replace et := hide et
    replace hl := hide hl
    go_enter Try.func11, Try.ntmps11
    go_wp2_with (at_builtin; refine wpList_appU rfl (.tmp 3) (.tmp 8) rfl w.heap.size _ rfl O a n c (l.take n) rfl H2.out (by omega) (by simp) ?_; intro a' c' w' h1 h2 h3; replace h1 := hide h1; replace h2 := hide h2; replace h3 := hide h3)
    go_ret
    exact fin.out n a' c' w' h1.out et.out h2.out h3.out
  · have e1 : min (n : Int) 60 = 60 := by omega
    have i1 : ¬ (n : Int) ≤ 60 := by omega
    have i2 : (60 : Int) < (n : Int) := by omega
    have i3 : (60 : Int) ≤ (c : Int) := by omega
    have H2 := hide (H.front 60 (by omega))
    replace hl := hide hl
    go_enter Try.func11, Try.ntmps11
    go_wp2_with (at_builtin; refine wpList_appU rfl (.tmp 3) (.tmp 8) rfl w.heap.size _ rfl O a 60 c (l.take 60) rfl H2.out (by omega) (by simp) ?_; intro a' c' w' h1 h2 h3; replace h1 := hide h1; replace h2 := hide h2; replace h3 := hide h3)
    go_ret
    exact fin.out 60 a' c' w' h1.out rfl h2.out h3.out
theorem equalIn_nil (w : World) (d : Nat) (a : Option Addr) (l c : Nat) : (Op.equalIn (d + 1) 23 (.slice a l c) (.slice none 0 0)).run Try.prog w = .ok a.isNone w := by
  cases a <;> simp [Op.equalIn, run_underlying Try.underlying23]
theorem eql_nil (w : World) (a : Option Addr) (l c : Nat) : (binOp .eql 23 (.slice a l c) (.slice none 0 0)).run Try.prog w = .ok (.bool a.isNone) w := by
  have h : (Op.equal 23 (.slice a l c) (.slice none 0 0)).run Try.prog w = .ok a.isNone w := equalIn_nil w 9999 a l c
  simp [binOp, h]
set_option maxHeartbeats 400000 in
theorem clone_any (w : World) (a : Option Addr) (n c : Nat) (l : List Int) (h : HasU w a n c l) (hb : n ≤ 1000000000) : Calls Try.prog 51 #[.slice a n c] w (RetU w l) := by
  cases a with
  | none =>
    have h1 := h.nil rfl
    have h2 := h.le
    obtain rfl : c = 0 := h1
    obtain rfl : n = 0 := by omega
    obtain rfl : l = [] := List.eq_nil_of_length_eq_zero h.hlen
    clear h
    have hq : (binOp .eql 23 (.slice none 0 0) (.slice none 0 0)).run Try.prog w = .ok (.bool true) w := eql_nil w none 0 0
    go_enter Try.func51, Try.ntmps51
    go_wp2
    go_ret
    exact ⟨none, 0, 0, rfl, hasU_nil w, Below.refl _ _, fun k hk => by cases hk⟩
  | some ad =>
    have H := hide (h.kept ((Below.refl w.heap.size w).alloc (Nat.le_refl _) (.cells #[] 24)) (Nat.le_refl _))
    have hB : Below w.heap.size w (w.alloc (.cells #[] 24)) := (Below.refl _ _).alloc (Nat.le_refl _) _
    have O := owns_empty w
    clear h
    have hq : (binOp .eql 23 (.slice (some ad) n c) (.slice none 0 0)).run Try.prog w = .ok (.bool false) w := eql_nil w (some ad) n c
    go_enter Try.func51, Try.ntmps51
    go_wp2_with (at_builtin; refine wpList_appU rfl (.tmp 5) (.tmp 6) rfl w.heap.size _ rfl O (some ad) n c l rfl H.out (by omega) (by simp) ?_; intro a' c' w' h1 h2 h3; replace h1 := hide h1; replace h2 := hide h2; replace h3 := hide h3)
    go_ret
    exact ⟨a', n, c', rfl, h1.out, hB.trans h2.out, fun b hb => (h3.out.lt b hb).1⟩
/-- In the world w the slice (a, n, c) has the lists ls. -/
structure HasLL (w : World) (a : Option Addr) (n c : Nat) (ls : List (List Int)) : Prop where
  hlen : ls.length = n
  le : n ≤ c
  capb : c ≤ maxLen
  cells : ∀ i, i < n → ∃ b off x m k, a = some ⟨b, off, none⟩ ∧ b < w.heap.size ∧ w.cell? ⟨b, off + i, none⟩ = some (.slice x m k) ∧ HasU w x m k (ls.getD i [])
section
variable {w w' : World} {a : Option Addr} {n c : Nat} {ls : List (List Int)}
theorem HasLL.kept {B : Nat} (h : HasLL w a n c ls) (hb : Below B w w') (hB : w.heap.size ≤ B) : HasLL w' a n c ls :=
  ⟨h.hlen, h.le, h.capb, fun i hi => by
    obtain ⟨b, off, x, m, k, e1, e2, e3, e4⟩ := h.cells i hi
    exact ⟨b, off, x, m, k, e1, Nat.lt_of_lt_of_le e2 hb.size, (hb.cell (p := ⟨b, off + i, none⟩) (Nat.lt_of_lt_of_le e2 hB)).trans e3, e4.kept hb hB⟩⟩
theorem HasLL.front (h : HasLL w a n c ls) (k : Nat) (hk : k ≤ n) : HasLL w a k c (ls.take k) := by
  have hl := h.hlen
  refine ⟨by simp; omega, Nat.le_trans hk h.le, h.capb, fun i hi => ?_⟩
  obtain ⟨b, off, x, m, q, e1, e2, e3, e4⟩ := h.cells i (by omega)
  refine ⟨b, off, x, m, q, e1, e2, e3, ?_⟩
  have : (ls.take k).getD i [] = ls.getD i [] := by simp [List.getD, hi]
  rw [this]; exact e4
theorem HasLL.back {b off : Nat} (h : HasLL w (some ⟨b, off, none⟩) n c ls) (k : Nat) (hk : k ≤ n) : HasLL w (some ⟨b, off + k, none⟩) (n - k) (c - k) (ls.drop k) := by
  have hl := h.hlen
  have hc := h.le
  have hm := h.capb
  refine ⟨by simp; omega, by omega, by omega, fun i hi => ?_⟩
  obtain ⟨b', off', x, m, q, e1, e2, e3, e4⟩ := h.cells (k + i) (by omega)
  cases e1
  refine ⟨b, off + k, x, m, q, rfl, e2, by rw [Nat.add_assoc]; exact e3, ?_⟩
  have : (ls.drop k).getD i [] = ls.getD (k + i) [] := by simp [List.getD, List.getElem?_drop]
  rw [this]; exact e4
theorem hasLL_nil (w : World) : HasLL w none 0 0 [] := ⟨rfl, Nat.le_refl _, Nat.zero_le _, fun i hi => by omega⟩
/-- A literal row of lists. -/
theorem hasLL_new {vs : List Value} (hl : vs.length = ls.length) (hm : vs.length ≤ maxLen) (h : ∀ i, i < vs.length → ∃ x m k, vs[i]? = some (.slice x m k) ∧ HasU w x m k (ls.getD i [])) : HasLL (w.alloc (.cells vs.toArray 23)) (some ⟨w.heap.size, 0, none⟩) vs.length vs.length ls := by
  have hB : Below w.heap.size w (w.alloc (.cells vs.toArray 23)) := (Below.refl _ _).alloc (Nat.le_refl _) _
  refine ⟨hl.symm, Nat.le_refl _, hm, fun i hi => ?_⟩
  obtain ⟨x, m, k, e1, e2⟩ := h i hi
  refine ⟨w.heap.size, 0, x, m, k, rfl, by simp, ?_, e2.kept hB (Nat.le_refl _)⟩
  simp [e1]
end
/-- What checkEach says of lists. -/
def allE (ls : List (List Int)) : Int := if ls.all upB = true then 0 else 2
theorem allE_ok {ls : List (List Int)} (h : UpL ls) : allE ls = 0 := by unfold allE; rw [if_pos ((upAll_iff ls).2 h)]
theorem allE_no {ls : List (List Int)} (h : ¬ UpL ls) : allE ls = 2 := by unfold allE; rw [if_neg (fun e => h ((upAll_iff ls).1 e))]
theorem mem_getD {ls : List (List Int)} {i : Nat} (hi : i < ls.length) : ls.getD i [] ∈ ls := by
  rw [show ls.getD i [] = ls[i] by simp [List.getD, List.getElem?_eq_getElem hi]]
  exact List.getElem_mem _
set_option maxHeartbeats 1000000 in
theorem each_any (w : World) (a : Option Addr) (n c : Nat) (ls : List (List Int)) (h : HasLL w a n c ls) (hn : n ≤ 1000000) (hs : ∀ l ∈ ls, l.length ≤ 1000000000) :
    Calls Try.prog 47 #[.slice a n c] w fun e w' => e = .returned (.int .i64 (allE ls)) ∧ Below w.heap.size w w' := by
  have hc := hide h
  have hl := hide h.hlen
  replace hs := hide hs
  have i1 : (n : Int) ≤ 1000000 := by omega
  clear h
  go_enter Try.func47, Try.ntmps47
  go_wp2_with fail
  go_loopw [8] (fun iv wr => ∃ i : Nat, i ≤ n ∧ iv = .int .i64 (i : Int) ∧ Hid (∀ j, j < i → Up (ls.getD j [])) ∧ Hid (Below w.heap.size w wr)) (fun iv _ => n - (intOf iv).toNat)
  case atStart => exact ⟨0, Nat.zero_le _, rfl, (fun j hj => by omega : ∀ j, j < 0 → Up (ls.getD j [])), Below.refl _ _⟩
  case round =>
    obtain ⟨i, hi, rfl, hsm, B⟩ := hrel
    by_cases hlt : i < n
    · have j1 : (i : Int) < (n : Int) := by omega
      have j2 : (0 : Int) ≤ (i : Int) := by omega
      obtain ⟨b, off, x, m, k, rfl, hb, c1, hU⟩ := hc.out.cells i hlt
      have c1i : wr.cell? ⟨b, off + i, none⟩ = some (.slice x m k) := (B.out.cell (p := ⟨b, off + i, none⟩) hb).trans c1
      have hm : ls.getD i [] ∈ ls := mem_getD (by rw [hl.out]; exact hlt)
      have CK := hide (check_any wr x m k _ (hU.kept B.out (Nat.le_refl _)) (by rw [← hU.hlen]; exact hs.out _ hm))
      clear c1 hU
      have hgo : Hid (Up (ls.getD i []) → ∀ j, j < i + 1 → Up (ls.getD j [])) := fun e j hj => by
        rcases Nat.lt_or_ge j i with h | h
        · exact hsm.out j h
        · obtain rfl : j = i := by omega
          exact e
      have hno : Hid (¬ Up (ls.getD i []) → allE ls = 2) := fun e => allE_no (fun h => e (h _ hm))
      have j4 : i + 1 ≤ n := by omega
      by_cases he : Up (ls.getD i [])
      · replace hgo := hide (hgo.out he)
        rw [upE_ok he] at CK
        replace he := hide he
        replace hm := hide hm
        go_wp2_with fail
        refine CK.out.mono ?_
        rintro e w2 ⟨rfl, B2⟩
        have B3 := hide (B.out.trans (B2.mono B.out.size))
        clear B2
        go_wp2_with fail
        go_roundw
        case rel => exact ⟨i + 1, j4, by go_num, hgo, B3⟩
        case measure => simp [intOf]; omega
      · have hd := hide (hno.out he)
        rw [upE_no he] at CK
        replace he := hide he
        replace hm := hide hm
        go_wp2_with fail
        refine CK.out.mono ?_
        rintro e w2 ⟨rfl, B2⟩
        have B3 := hide (B.out.trans (B2.mono B.out.size))
        clear B2
        go_wp2_with fail
        go_ret
        exact ⟨ret_int hd.out.symm, B3.out⟩
    · obtain rfl : i = n := by omega
      have j1 : ¬ (i : Int) < (i : Int) := by omega
      go_wp2_with fail
      go_ret
      refine ⟨ret_int (Eq.symm (allE_ok fun l hm => ?_)), B.out⟩
      obtain ⟨j, hj, rfl⟩ := List.getElem_of_mem hm
      have := hsm.out j (by rw [← hl.out]; exact hj)
      simpa [List.getD, List.getElem?_eq_getElem hj] using this
/-- What checkMany says of lists. -/
def manyE (ls : List (List Int)) : Int := if ls.length ≤ 4096 then allE ls else 3
set_option maxHeartbeats 1000000 in
theorem many_any (w : World) (a : Option Addr) (n c : Nat) (ls : List (List Int)) (h : HasLL w a n c ls) (hn : n ≤ 4096) (hs : ∀ l ∈ ls, l.length ≤ 1000000000) :
    Calls Try.prog 43 #[.slice a n c] w fun e w' => e = .returned (.int .i64 (allE ls)) ∧ Below w.heap.size w w' := by
  have EA := hide (each_any w a n c ls h (by omega) hs)
  have i1 : (n : Int) ≤ 4096 := by omega
  have i2 : ¬ (4096 : Int) < (n : Int) := by omega
  clear h
  go_enter Try.func43, Try.ntmps43
  go_wp2_with fail
  refine EA.out.mono ?_
  rintro e w2 ⟨rfl, B2⟩
  replace B2 := hide B2
  go_wp2_with fail
  go_ret
  exact ⟨rfl, B2.out⟩
/-- More than 4096 lists, whatever they are. -/
theorem many_long (w : World) (a : Option Addr) (n c : Nat) (hn : 4096 < n) : Calls Try.prog 43 #[.slice a n c] w fun e w' => e = .returned (.int .i64 3) ∧ w' = w := by
  have i2 : (4096 : Int) < (n : Int) := by omega
  go_enter Try.func43, Try.ntmps43
  go_wp2_with fail
  go_ret
  exact ⟨rfl, rfl⟩
end Go.Proofs.Ythkfbdcocnhebaa
