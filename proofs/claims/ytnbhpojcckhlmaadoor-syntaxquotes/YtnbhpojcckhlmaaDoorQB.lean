/-
  Quote.
-/
import Derived.Test.YtnbhpojcckhlmaaDoorQA
import Derived.Lib.IndexAny
namespace Go.Proofs.YtnbhpojcckhlmaaDoor
open Go.RowKit Go.Shelf Go.Lib
set_option linter.unusedVariables false
set_option linter.unusedSimpArgs false

/-- The other bytes that stand for themselves. -/
def plS : ByteArray := ⟨#[95, 44, 58, 59, 60, 61, 62, 64, 33, 34, 35, 37, 38, 39, 126]⟩
/-- A byte that stands for itself. -/
def plB (c : UInt8) : Bool := isLet (c.toNat : Int) || isDig (c.toNat : Int) || plS.data.toList.contains c
/-- The digits to the base 16. -/
def dgS : ByteArray := ⟨#[48, 49, 50, 51, 52, 53, 54, 55, 56, 57, 97, 98, 99, 100, 101, 102]⟩
def dg (n : Nat) : UInt8 := dgS.data.toList.getD n 0
def qc (c : UInt8) : List UInt8 := if plB c = true then [c] else [92, 120, dg (c.toNat / 16), dg (c.toNat % 16)]
def quo (l : List UInt8) : List UInt8 := l.flatMap qc
theorem quo_snoc (l : List UInt8) (c : UInt8) : quo (l ++ [c]) = quo l ++ qc c := by simp [quo]
theorem quo_len (l : List UInt8) : (quo l).length ≤ 4 * l.length := by
  induction l with
  | nil => simp [quo]
  | cons a l ih =>
    have h1 : (qc a).length ≤ 4 := by unfold qc; split <;> simp
    have h2 : quo (a :: l) = qc a ++ quo l := by simp [quo]
    rw [h2]; simp; omega
theorem u8_lt (c : UInt8) : c.toNat < 256 := UInt8.toNat_lt c
theorem dig_at {n : Nat} (hn : n < 16) (h : n < (⟨#[48, 49, 50, 51, 52, 53, 54, 55, 56, 57, 97, 98, 99, 100, 101, 102]⟩ : ByteArray).size) : ((⟨#[48, 49, 50, 51, 52, 53, 54, 55, 56, 57, 97, 98, 99, 100, 101, 102]⟩ : ByteArray)[n]'h) = dg n := by
  have : ∀ n : Fin 16, dgS.data[n.1]? = some (dg n.1) := by decide +kernel
  have h2 := this ⟨n, hn⟩
  obtain ⟨h3, h4⟩ := Array.getElem?_eq_some_iff.1 h2
  exact h4
theorem u8_back (c : UInt8) : ((c.toNat : Int).toNat.toUInt8) = c := by
  rw [Int.toNat_natCast]; exact UInt8.ofNat_toNat
set_option maxHeartbeats 4000000 in
theorem quote_any (s : ByteArray) (hs : s.size ≤ 256) (w : World) :
    Calls Tryd.prog 5 #[.string s] w fun e w' => e = .returned (.string ⟨(quo s.data.toList).toArray⟩) ∧ Below w.heap.size w w' := by
  have hsl : s.data.toList.length = s.size := by rw [Array.length_toList]; rfl
  go_enter Tryd.func5, Tryd.ntmps5
  go_wp2
  go_loopw [8] (fun i wr => ∃ k : Nat, k ≤ s.size ∧ i = .int .i64 (k : Int) ∧ Hid (IsBuilder 41 5 w.heap.size w.heap.size (byteCells (quo (s.data.toList.take k))) wr ∧ Below w.heap.size w wr)) (fun i _ => s.size - (RowKit.intOf i).toNat)
  case atStart => exact ⟨0, Nat.zero_le _, rfl, fresh_isBuilder 41 5 w, (Below.refl _ w).alloc (Nat.le_refl _) _⟩
  case round =>
    obtain ⟨k, hk, rfl, hR⟩ := hrel
    by_cases hlt : k < s.size
    · have i1 : (k : Int) < (s.size : Int) := by omega
      have hget : s.data.toList[k]? = some (s[k]'hlt) := by
        rw [List.getElem?_eq_getElem (by omega)]
        rfl
      have htk : Hid (s.data.toList.take (k + 1) = s.data.toList.take k ++ [s[k]'hlt]) := by
        show _ = _
        rw [List.take_add_one, hget]; rfl
      have hbs := hR.out.2.size
      have hq : Hid ((quo (s.data.toList.take k)).length ≤ 1024) := by
        have := quo_len (s.data.toList.take k)
        rw [List.length_take] at this
        exact (by omega : (quo (s.data.toList.take k)).length ≤ 1024)
      replace hget := hide hget
      go_wp2_with fail
      generalize s[k]'hlt = c at *
      have hcl := u8_lt c
      by_cases hp : plB c = true
      · have hqc : Hid (quo (s.data.toList.take (k + 1)) = quo (s.data.toList.take k) ++ [c]) := by
          show _ = _
          rw [htk.out, quo_snoc]; simp [qc, hp]
        have WB := hide (fun w1 h1 h2 => wb_any w.heap.size w.heap.size (quo (s.data.toList.take k)) c w1 h1 (by have := hq.out; omega) h2)
        cases hL : isLet (c.toNat : Int) with
        | true =>
          refine (letter_any _ _).mono ?_
          rintro e w1 ⟨rfl, rfl⟩
          rw [hL]
          go_wp2_with fail
          refine (WB.out _ hR.out.1 hbs).mono ?_
          rintro e w1 ⟨rfl, h1, B1⟩
          have hR1 := hide (And.intro h1 (hR.out.2.trans B1))
          clear h1 B1
          go_wp2
          go_roundw
          case rel => exact ⟨k + 1, by omega, by go_num, by rw [hqc.out]; exact hR1.out⟩
          case measure => simp [RowKit.intOf]; omega
        | false =>
          refine (letter_any _ _).mono ?_
          rintro e w1 ⟨rfl, rfl⟩
          rw [hL]
          go_wp2_with fail
          cases hD : isDig (c.toNat : Int) with
          | true =>
            refine (digit_any _ _).mono ?_
            rintro e w1 ⟨rfl, rfl⟩
            rw [hD]
            go_wp2_with fail
            refine (WB.out _ hR.out.1 hbs).mono ?_
            rintro e w1 ⟨rfl, h1, B1⟩
            have hR1 := hide (And.intro h1 (hR.out.2.trans B1))
            clear h1 B1
            go_wp2
            go_roundw
            case rel => exact ⟨k + 1, by omega, by go_num, by rw [hqc.out]; exact hR1.out⟩
            case measure => simp [RowKit.intOf]; omega
          | false =>
            refine (digit_any _ _).mono ?_
            rintro e w1 ⟨rfl, rfl⟩
            rw [hD]
            have hX : (0 : Int) ≤ indexByte plS.data.toList ((c.toNat : Int).toNat.toUInt8) := by
              have h1 := contains_iff_indexByte plS.data.toList c
              have h2 : plS.data.toList.contains c = true := by simpa [plB, hL, hD] using hp
              rw [h2] at h1
              rw [u8_back]
              exact of_decide_eq_true h1.symm
            go_wp2_with fail
            refine (ix_any plS _ _).mono ?_
            rintro e w1 ⟨rfl, rfl⟩
            generalize indexByte plS.data.toList ((c.toNat : Int).toNat.toUInt8) = ii at *
            go_wp2_with fail
            refine (WB.out _ hR.out.1 hbs).mono ?_
            rintro e w1 ⟨rfl, h1, B1⟩
            have hR1 := hide (And.intro h1 (hR.out.2.trans B1))
            clear h1 B1
            go_wp2
            go_roundw
            case rel => exact ⟨k + 1, by omega, by go_num, by rw [hqc.out]; exact hR1.out⟩
            case measure => simp [RowKit.intOf]; omega
      · have hL : isLet (c.toNat : Int) = false := by cases h : isLet (c.toNat : Int) <;> simp_all [plB]
        have hD : isDig (c.toNat : Int) = false := by cases h : isDig (c.toNat : Int) <;> simp_all [plB]
        have hX : ¬ (0 : Int) ≤ indexByte plS.data.toList ((c.toNat : Int).toNat.toUInt8) := by
          have h1 := contains_iff_indexByte plS.data.toList c
          have h2 : plS.data.toList.contains c = false := by cases h : plS.data.toList.contains c <;> simp_all [plB]
          rw [h2] at h1
          rw [u8_back]
          exact of_decide_eq_false h1.symm
        have hqc : Hid (quo (s.data.toList.take (k + 1)) = ((quo (s.data.toList.take k) ++ [92, 120]) ++ [dg (c.toNat / 16)]) ++ [dg (c.toNat % 16)]) := by
          show _ = _
          rw [htk.out, quo_snoc]; simp [qc, hp]
        refine (letter_any _ _).mono ?_
        rintro e w1 ⟨rfl, rfl⟩
        rw [hL]
        go_wp2_with fail
        refine (digit_any _ _).mono ?_
        rintro e w1 ⟨rfl, rfl⟩
        rw [hD]
        go_wp2_with fail
        refine (ix_any plS _ _).mono ?_
        rintro e w1 ⟨rfl, rfl⟩
        generalize indexByte plS.data.toList ((c.toNat : Int).toNat.toUInt8) = ii at *
        go_wp2_with fail
        refine (ws_any w.heap.size w.heap.size (quo (s.data.toList.take k)) ⟨#[92, 120]⟩ w1 hR.out.1 (by have := hq.out; show _ + 2 ≤ _; omega) hbs).mono ?_
        rintro e w2 ⟨rfl, h1, B1⟩
        have hR1 := hide (And.intro h1 (hR.out.2.trans B1))
        clear h1 B1
        go_wp2_with fail
        rw [dig_at (show c.toNat / 16 < 16 by omega)]
        refine (wb_any w.heap.size w.heap.size _ (dg (c.toNat / 16)) w2 hR1.out.1 (by have := hq.out; simp; omega) hR1.out.2.size).mono ?_
        rintro e w3 ⟨rfl, h1, B1⟩
        have hR2 := hide (And.intro h1 (hR1.out.2.trans B1))
        clear h1 B1
        go_wp2_with fail
        rw [dig_at (show c.toNat % 16 < 16 by omega)]
        refine (wb_any w.heap.size w.heap.size _ (dg (c.toNat % 16)) w3 hR2.out.1 (by have := hq.out; simp; omega) hR2.out.2.size).mono ?_
        rintro e w4 ⟨rfl, h1, B1⟩
        have hR3 := hide (And.intro h1 (hR2.out.2.trans B1))
        clear h1 B1
        go_wp2
        go_roundw
        case rel => exact ⟨k + 1, by omega, by go_num, by rw [hqc.out]; exact hR3.out⟩
        case measure => simp [RowKit.intOf]; omega
    · have i1 : ¬ (k : Int) < (s.size : Int) := by omega
      have ST := hide (st_any w.heap.size w.heap.size (quo (s.data.toList.take k)) wr hR.out.1 hR.out.2.size)
      have hkk : Hid (s.data.toList.take k = s.data.toList) := List.take_of_length_le (by omega)
      go_wp2_with fail
      refine ST.out.mono ?_
      rintro e w1 ⟨rfl, B1⟩
      go_wp2
      go_ret
      exact ⟨by rw [hkk.out]; rfl, hR.out.2.trans B1⟩
end Go.Proofs.YtnbhpojcckhlmaaDoor
