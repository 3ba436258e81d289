/-
  isDigit, isLetter, isValue, Get.
-/
import Derived.Test.YtlmpndmceiihaaaE
namespace Go.Proofs.Ytlmpndmceiihaaa
open Go.RowKit
set_option linter.unusedVariables false
set_option linter.unusedSimpArgs false

def isDig (c : Int) : Bool := decide (48 ≤ c) && decide (c ≤ 57)
def isLet (c : Int) : Bool := (decide (97 ≤ c) && decide (c ≤ 122)) || (decide (65 ≤ c) && decide (c ≤ 90))
def isVal (s : Str) : Bool := decide (0 < s.size) && decide (s.size ≤ 256)

theorem digit_any (c : Int) (w : World) : Calls Try.prog 40 #[.int .u8 c] w fun e w' => e = .returned (.bool (isDig c)) ∧ w' = w := by
  by_cases h1 : 48 ≤ c
  · by_cases h2 : c ≤ 57
    · rw [show isDig c = true by simp [isDig, h1, h2]]
      go_enter Try.func40, Try.ntmps40
      go_wp2
      go_ret
      exact ⟨by first | rfl | simp, rfl⟩
    · rw [show isDig c = false by simp [isDig, h1, h2]]
      go_enter Try.func40, Try.ntmps40
      go_wp2
      go_ret
      exact ⟨by first | rfl | simp, rfl⟩
  · rw [show isDig c = false by simp [isDig, h1]]
    go_enter Try.func40, Try.ntmps40
    go_wp2
    go_ret
    exact ⟨by first | rfl | simp, rfl⟩
theorem letter_any (c : Int) (w : World) : Calls Try.prog 41 #[.int .u8 c] w fun e w' => e = .returned (.bool (isLet c)) ∧ w' = w := by
  rcases (show c < 65 ∨ (65 ≤ c ∧ c ≤ 90) ∨ (90 < c ∧ c < 97) ∨ (97 ≤ c ∧ c ≤ 122) ∨ 122 < c by omega) with h | ⟨h, h'⟩ | ⟨h, h'⟩ | ⟨h, h'⟩ | h
  · have k1 : ¬ 97 ≤ c := by omega
    have k2 : ¬ 65 ≤ c := by omega
    rw [show isLet c = false by simp [isLet, k1, k2]]
    go_enter Try.func41, Try.ntmps41
    go_wp2
    go_ret
    exact ⟨by first | rfl | simp, rfl⟩
  · have k1 : ¬ 97 ≤ c := by omega
    rw [show isLet c = true by simp [isLet, k1, h, h']]
    go_enter Try.func41, Try.ntmps41
    go_wp2
    go_ret
    exact ⟨by first | rfl | simp, rfl⟩
  · have k1 : ¬ 97 ≤ c := by omega
    have k2 : 65 ≤ c := by omega
    have k3 : ¬ c ≤ 90 := by omega
    rw [show isLet c = false by simp [isLet, k1, k2, k3]]
    go_enter Try.func41, Try.ntmps41
    go_wp2
    go_ret
    exact ⟨by first | rfl | simp, rfl⟩
  · rw [show isLet c = true by simp [isLet, h, h']]
    go_enter Try.func41, Try.ntmps41
    go_wp2
    go_ret
    exact ⟨by first | rfl | simp, rfl⟩
  · have k1 : 97 ≤ c := by omega
    have k2 : ¬ c ≤ 122 := by omega
    have k3 : 65 ≤ c := by omega
    have k4 : ¬ c ≤ 90 := by omega
    rw [show isLet c = false by simp [isLet, k1, k2, k3, k4]]
    go_enter Try.func41, Try.ntmps41
    go_wp2
    go_ret
    exact ⟨by first | rfl | simp, rfl⟩
theorem value_any (s : Str) (w : World) : Calls Try.prog 24 #[.string s] w fun e w' => e = .returned (.bool (isVal s)) ∧ w' = w := by
  by_cases h1 : 0 < s.size
  · have i1 : (0 : Int) < (s.size : Int) := by omega
    by_cases h2 : s.size ≤ 256
    · have i2 : (s.size : Int) ≤ 256 := by omega
      rw [show isVal s = true by simp [isVal, h1, h2]]
      go_enter Try.func24, Try.ntmps24
      go_wp2
      go_ret
      exact ⟨by first | rfl | simp, rfl⟩
    · have i2 : ¬ (s.size : Int) ≤ 256 := by omega
      rw [show isVal s = false by simp [isVal, h1, h2]]
      go_enter Try.func24, Try.ntmps24
      go_wp2
      go_ret
      exact ⟨by first | rfl | simp, rfl⟩
  · have i1 : ¬ (0 : Int) < (s.size : Int) := by omega
    rw [show isVal s = false by simp [isVal, h1]]
    go_enter Try.func24, Try.ntmps24
    go_wp2
    go_ret
    exact ⟨by first | rfl | simp, rfl⟩
/-- The value of the first label with the name s. -/
def getB : List Lab → Str → Str
  | [], _ => ByteArray.empty
  | x :: L, s => if x.1 = s then x.2 else getB L s
theorem getB_drop {L : List Lab} {k : Nat} (s : Str) (h : k < L.length) : getB (L.drop k) s = if (L.getD k noLab).1 = s then (L.getD k noLab).2 else getB (L.drop (k + 1)) s := by
  rw [List.drop_eq_getElem_cons h]
  simp [getB, List.getD, List.getElem?_eq_getElem h]
set_option maxHeartbeats 1000000 in
theorem get_any (w : World) (a : Option Addr) (len cap : Nat) (L : List Lab) (s : Str) (h : HasB w a len cap L) :
    Calls Try.prog 12 #[.slice a len cap, .string s] w fun e w' => e = .returned (.string (getB L s)) ∧ Below w.heap.size w w' := by
  have hl := h.hlen
  have hcap := h.capb
  have hle := h.le
  unfold maxLen at hcap
  have hc := hide h.cells
  clear h
  go_enter Try.func12, Try.ntmps12
  go_wp2
  go_loopw [9] (fun i wr => ∃ k : Nat, k ≤ len ∧ i = .int .i64 k ∧ Hid (Below w.heap.size w wr) ∧ Hid (getB (L.drop k) s = getB L s)) (fun i _ => len - (intOf i).toNat)
  case atStart => exact ⟨0, Nat.zero_le _, rfl, Below.refl _ w, (rfl : getB (L.drop 0) s = getB L s)⟩
  case round =>
    obtain ⟨k, hk, rfl, hB, ht⟩ := hrel
    by_cases hkl : k < len
    · obtain ⟨b, off, rfl, hbl, hcl⟩ := hc.out (by omega)
      have i1 : (k : Int) < len := by omega
      have hsz := hB.out.size
      have c0 : wr.cell? ⟨b, off + k * 2, none⟩ = some (.string (L.getD k noLab).1) := (hB.out.cell (p := ⟨b, off + k * 2, none⟩) hbl).trans (hcl k hkl).1
      have c1 : wr.cell? ⟨b, off + k * 2 + 1, none⟩ = some (.string (L.getD k noLab).2) := (hB.out.cell (p := ⟨b, off + k * 2 + 1, none⟩) hbl).trans (hcl k hkl).2
      have hst := getB_drop (L := L) (k := k) s (by omega)
      rw [ht.out] at hst
      generalize L.getD k noLab = x at c0 c1 hst
      obtain ⟨x0, x1⟩ := x
      simp only at c0 c1 hst
      clear hcl
      by_cases he : x0 = s
      · rw [if_pos he] at hst
        have he2 : (ByteArray.toList x0 == ByteArray.toList s) = true := by simp [he]
        replace hst := hide hst
        clear he
        go_wp2
        go_ret
        exact ⟨by rw [hst.out]; rfl, hB.out.alloc hsz _⟩
      · rw [if_neg he] at hst
        have he2 : (ByteArray.toList x0 == ByteArray.toList s) = false := by
          simp only [beq_eq_false_iff_ne]
          exact fun e => he ((str_ext _ _).1 e)
        replace hst := hide hst
        clear he
        go_wp2
        go_roundw
        case rel => exact ⟨k + 1, by omega, by go_num, hB.out.alloc hsz _, hst.out.symm⟩
        case measure => simp [intOf]; omega
    · obtain rfl : k = len := by omega
      have he : Hid (getB L s = ByteArray.empty) := by
        have := ht.out
        rw [List.drop_of_length_le (by omega)] at this
        exact this.symm
      go_wp2
      go_ret
      exact ⟨by rw [he.out]; rfl, hB.out⟩
end Go.Proofs.Ytlmpndmceiihaaa
