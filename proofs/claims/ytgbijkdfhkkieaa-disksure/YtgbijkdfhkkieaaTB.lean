/-
  The law's name.
-/
import Derived.Test.YtgbijkdfhkkieaaTA
namespace Go.Proofs.Ytgbijkdfhkkieaa
open Go.RowKit Go.Maps Go.Lib
set_option linter.unusedVariables false
set_option linter.unusedSimpArgs false
/-- At most 65 bytes of a name. -/
def nam (s : ByteArray) : ByteArray := s.extract 0 (min s.size 65)
set_option maxHeartbeats 1000000 in
set_option maxRecDepth 100000 in
theorem name_any (s : ByteArray) (w : World) : Calls Try.prog 16 #[.string s] w fun e w' => e = .returned (.string (nam s)) ∧ w' = w := by
  obtain ⟨n, hn⟩ : ∃ n, s.size = n := ⟨_, rfl⟩
  obtain ⟨m, hm⟩ : ∃ m, min n 65 = m := ⟨_, rfl⟩
  have y1 : (if (n : Int) < 65 then (n : Int) else 65) = (m : Int) := by rw [← hm]; split <;> omega
  have y2 : (if (65 : Int) < (n : Int) then 65 else (n : Int)) = (m : Int) := by rw [← hm]; split <;> omega
  have y3 : min (n : Int) 65 = (m : Int) := by rw [← hm]; omega
  have hmn : m ≤ ByteArray.size s := by omega
  have hmi : (m : Int) ≤ (ByteArray.size s : Int) := by omega
  have e : nam s = s.extract 0 m := by unfold nam; rw [hn, hm]
  rw [e]
  clear e
  replace hm := hide hm
  go_enter Try.func16, Try.ntmps16
  go_wp2
  go_ret
  exact ⟨rfl, rfl⟩
end Go.Proofs.Ytgbijkdfhkkieaa
