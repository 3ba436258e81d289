/-
  The small functions: isMade, isRoom, isName, areNames, check, isOn, done, mend, sectors.
-/
import Derived.Test.YtgbijkdfhkkieaaB
namespace Go.Proofs.Ytgbijkdfhkkieaa
open Go.RowKit Go.Maps Go.Lib
set_option linter.unusedVariables false
set_option linter.unusedSimpArgs false

abbrev ptr (d : Nat) : Value := .pointer (some ⟨d, 0, none⟩)
theorem Dk.cs {w : World} {d bf bs : Nat} {m : M} {T : Nat → Prop} {V : Nat → Value × Value} (h : Dk w d m T bf bs V) :
    w.cell? ⟨d, 0, none⟩ = some (.int .i64 m.left) ∧ w.cell? ⟨d, 1, none⟩ = some (.bool m.gone) ∧ w.cell? ⟨d, 2, none⟩ = some (.int .i64 m.steps) ∧ w.cell? ⟨d, 3, none⟩ = some (.map (some bf)) ∧ w.cell? ⟨d, 4, none⟩ = some (.map (some bs)) ∧ w.cell? ⟨d, 5, none⟩ = some (.int .i64 m.room) ∧ w.cell? ⟨d, 6, none⟩ = some (.int .i64 m.used) :=
  ⟨h.dk.cell 0, h.dk.cell 1, h.dk.cell 2, h.dk.cell 3, h.dk.cell 4, h.dk.cell 5, h.dk.cell 6⟩

theorem equalIn_map (w : World) (d : Nat) (b : Option Nat) : (Op.equalIn (d + 1) 62 (.map b) (.map none)).run Try.prog w = .ok b.isNone w := by
  cases b <;> simp [Op.equalIn, run_underlying Try.underlying62]
theorem neq_map (w : World) (b : Option Nat) : (binOp .neq 62 (.map b) (.map none)).run Try.prog w = .ok (.bool b.isSome) w := by
  have h : (Op.equal 62 (.map b) (.map none)).run Try.prog w = .ok b.isNone w := equalIn_map w 9999 b
  cases b <;> simp_all [binOp]
set_option maxHeartbeats 400000 in
theorem isMade_any {w : World} {d bf bs : Nat} {m : M} {T : Nat → Prop} {V : Nat → Value × Value} (h : Dk w d m T bf bs V) : Calls Try.prog 33 #[ptr d] w fun e w' => e = .returned (.bool true) ∧ w' = w := by
  obtain ⟨c0, c1, c2, c3, c4, c5, c6⟩ := h.cs
  clear h
  have hq : (binOp .neq 62 (.map (some bf)) (.map none)).run Try.prog w = .ok (.bool true) w := neq_map w (some bf)
  go_enter Try.func33, Try.ntmps33
  go_wp2
  go_ret
  exact ⟨rfl, rfl⟩
set_option maxHeartbeats 400000 in
theorem isMade_nil (w : World) : Calls Try.prog 33 #[.pointer none] w fun e w' => e = .returned (.bool false) ∧ w' = w := by
  go_enter Try.func33, Try.ntmps33
  go_wp2
  go_ret
  exact ⟨rfl, rfl⟩
set_option maxHeartbeats 400000 in
theorem isMade_void (w : World) (d : Nat) (c3 : w.cell? ⟨d, 3, none⟩ = some (.map none)) : Calls Try.prog 33 #[ptr d] w fun e w' => e = .returned (.bool false) ∧ w' = w := by
  have hq : (binOp .neq 62 (.map none) (.map none)).run Try.prog w = .ok (.bool false) w := neq_map w none
  go_enter Try.func33, Try.ntmps33
  go_wp2
  go_ret
  exact ⟨rfl, rfl⟩
set_option maxHeartbeats 400000 in
theorem isRoom_any (n : Int) (w : World) : Calls Try.prog 39 #[.int .i64 n] w fun e w' => e = .returned (.bool (decide (1 ≤ n ∧ n ≤ 65536))) ∧ w' = w := by
  by_cases h1 : 1 ≤ n
  · by_cases h2 : n ≤ 65536
    · rw [show decide (1 ≤ n ∧ n ≤ 65536) = true from decide_eq_true ⟨h1, h2⟩]
      go_enter Try.func39, Try.ntmps39
      go_wp2
      go_ret
      exact ⟨rfl, rfl⟩
    · rw [show decide (1 ≤ n ∧ n ≤ 65536) = false from decide_eq_false (fun h => h2 h.2)]
      go_enter Try.func39, Try.ntmps39
      go_wp2
      go_ret
      exact ⟨rfl, rfl⟩
  · rw [show decide (1 ≤ n ∧ n ≤ 65536) = false from decide_eq_false (fun h => h1 h.1)]
    go_enter Try.func39, Try.ntmps39
    go_wp2
    go_ret
    exact ⟨rfl, rfl⟩
def sec (n : Nat) : Nat := (n + 255) / 256
set_option maxHeartbeats 400000 in
theorem sectors_any (n : Nat) (w : World) (h : n ≤ 1099511627776) : Calls Try.prog 61 #[.int .i64 (n : Int)] w fun e w' => e = .returned (.int .i64 (sec n : Int)) ∧ w' = w := by
  go_enter Try.func61, Try.ntmps61
  go_wp2
  go_ret

  exact ⟨ret_int (by unfold sec; omega), rfl⟩
/-- The power, as a step begins. -/
def pw (m : M) : M := if m.left = 0 then { m with gone := true } else m
/-- A step is done. -/
def dn (m : M) : M := { m with left := if 0 < m.left then m.left - 1 else m.left, steps := m.steps + 1 }
/-- The byte k of s. -/
def byt (s : ByteArray) (k : Nat) : Int := if h : k < ByteArray.size s then ((s[k]'h).toNat : Int) else 0
theorem byt_eq {s : ByteArray} {k : Nat} (h : k < ByteArray.size s) : ((s[k]'h).toNat : Int) = byt s k := by unfold byt; rw [dif_pos h]
/-- May a name be? -/
def nameOk (s : ByteArray) : Bool := decide (0 < s.size) && decide (s.size ≤ 64) && (List.range s.size).all fun k => decide (33 ≤ byt s k) && decide (byt s k ≤ 126)
theorem size_of_not (s : ByteArray) (h : ¬ 0 < s.size) : s = ⟨#[]⟩ := by
  cases s with
  | mk d =>
    have : d.size = 0 := by have : ¬ 0 < d.size := h; omega
    rw [Array.eq_empty_of_size_eq_zero this]
theorem nameOk_size {s : ByteArray} (h : nameOk s = true) : s.size ≤ 64 := by
  unfold nameOk at h
  simp only [Bool.and_eq_true, decide_eq_true_eq] at h
  exact h.1.2
theorem beq_str (s t : ByteArray) : (s.toList == t.toList) = decide (s = t) := by
  rw [Bool.eq_iff_iff, beq_iff_eq, decide_eq_true_iff]; exact toList_inj _ _
theorem eql_str (w : World) (s t : ByteArray) : (binOp .eql 9 (.string s) (.string t)).run Try.prog w = .ok (.bool (decide (s = t))) w := by
  simp [go_sem, binOp, Op.stringOp, beq_str]
theorem neq_str (w : World) (s t : ByteArray) : (binOp .neq 9 (.string s) (.string t)).run Try.prog w = .ok (.bool (!decide (s = t))) w := by
  simp [go_sem, binOp, Op.stringOp, beq_str]
set_option maxHeartbeats 2000000 in
theorem isName_any (s : ByteArray) (w : World) : Calls Try.prog 87 #[.string s] w fun e w' => e = .returned (.bool (nameOk s)) ∧ w' = w := by
  by_cases h1 : 0 < ByteArray.size s
  · have i1 : s.toList.isEmpty = false := by
      rw [ByteArray.toList_eq]
      cases s with
      | mk d =>
        have : 0 < d.size := h1
        cases hd : d.toList with
        | nil => have : d.size = 0 := by simpa using congrArg List.length hd
                 omega
        | cons => rfl
    by_cases h2 : ByteArray.size s ≤ 64
    · have i2 : ¬ ((64 : Int) < (ByteArray.size s : Int)) := by omega
      go_enter Try.func87, Try.ntmps87
      go_wp2
      go_loopw [13] (fun i wr => ∃ k : Nat, k ≤ ByteArray.size s ∧ i = .int .i64 k ∧ wr = w ∧ Hid (∀ j, j < k → (33 ≤ byt s j ∧ byt s j ≤ 126))) (fun i _ => ByteArray.size s - (intOf i).toNat)
      case atStart => exact ⟨0, Nat.zero_le _, rfl, rfl, (fun j hj => by omega : ∀ j, j < 0 → (33 ≤ byt s j ∧ byt s j ≤ 126))⟩
      case round =>
        obtain ⟨k, hk, rfl, rfl, ht⟩ := hrel
        by_cases hkl : k < ByteArray.size s
        · have j1 : (k : Int) < (ByteArray.size s : Int) := by omega
          have bk := byt_eq hkl
          by_cases ha : 33 ≤ byt s k
          · by_cases hb : byt s k ≤ 126
            · have ht2 : Hid (∀ j, j < k + 1 → (33 ≤ byt s j ∧ byt s j ≤ 126)) := fun j hj => by
                rcases Nat.lt_succ_iff_lt_or_eq.1 hj with h' | h'
                · exact ht.out j h'
                · rw [h']; exact ⟨ha, hb⟩
              have ha' : ¬ (((s[k]'hkl).toNat : Int) < 33) := by rw [bk]; omega
              have hb' : ¬ (126 < ((s[k]'hkl).toNat : Int)) := by rw [bk]; omega
              clear ht ha hb bk
              go_wp2
              go_roundw
              case rel => exact ⟨k + 1, by omega, by go_num, (by first | trivial | rfl), ht2⟩
              case measure => simp [intOf]; omega
            · have fin : Hid (nameOk s = false) := by
                show nameOk s = false
                unfold nameOk
                rw [Bool.and_eq_false_iff]
                exact .inr (by
                  rw [List.all_eq_false]
                  exact ⟨k, List.mem_range.2 hkl, by simp [ha, hb]⟩)
              have ha' : ¬ (((s[k]'hkl).toNat : Int) < 33) := by rw [bk]; omega
              have hb' : 126 < ((s[k]'hkl).toNat : Int) := by rw [bk]; omega
              clear ht ha hb bk
              go_wp2
              go_ret
              exact ⟨by rw [fin.out]; rfl, rfl⟩
          · have fin : Hid (nameOk s = false) := by
              show nameOk s = false
              unfold nameOk
              rw [Bool.and_eq_false_iff]
              exact .inr (by
                rw [List.all_eq_false]
                exact ⟨k, List.mem_range.2 hkl, by simp [ha]⟩)
            have ha' : ((s[k]'hkl).toNat : Int) < 33 := by rw [bk]; omega
            clear ht ha bk
            go_wp2
            go_ret
            exact ⟨by rw [fin.out]; rfl, rfl⟩
        · obtain rfl : k = ByteArray.size s := by omega
          have fin : Hid (nameOk s = true) := by
            show nameOk s = true
            unfold nameOk
            simp only [h1, h2, Bool.and_eq_true, decide_true, and_self, true_and, List.all_eq_true, List.mem_range, decide_eq_true_eq]
            exact ht.out
          go_wp2
          go_ret
          exact ⟨by rw [fin.out]; rfl, rfl⟩
    · have i2 : (64 : Int) < (ByteArray.size s : Int) := by omega
      rw [show nameOk s = false by simp [nameOk, h2]]
      go_enter Try.func87, Try.ntmps87
      go_wp2
      go_ret
      exact ⟨rfl, rfl⟩
  · have i1 : s.toList.isEmpty = true := by rw [size_of_not s h1, ByteArray.toList_eq]; rfl
    rw [show nameOk s = false by simp [nameOk, h1]]
    go_enter Try.func87, Try.ntmps87
    go_wp2
    go_ret
    exact ⟨rfl, rfl⟩
end Go.Proofs.Ytgbijkdfhkkieaa
