/-
  How many bytes a set has at most.
-/
import Derived.Test.YtlmpndmceiihaaaBE
namespace Go.Proofs.Ytlmpndmceiihaaa
open Go.RowKit

theorem lbs_len : ∀ R : List Lab, (∀ x ∈ R, x.1.size ≤ 64 ∧ x.2.size ≤ 256) → (V.lbs R).length ≤ R.length * 400
  | [], _ => by simp [V.lbs]
  | x :: r, h => by
    have h1 := h x (by simp)
    have h2 := lbs_len r (fun y hy => h y (by simp [hy]))
    have e1 := enc_len10 x.1.size
    have e2 := enc_len10 x.2.size
    simp only [V.lbs, V.lb, V.pb, List.length_append, V.nums_len, List.length_cons]
    omega
theorem bytes_len {R : List Lab} (h : chkB R = true) : (V.bytesL R).length ≤ 10000 := by
  have h1 := lbs_len R (lab_sizes h)
  have h2 := (chk_len16 h).2
  have h3 := enc_len10 R.length
  rw [V.bytesL, List.length_append]
  omega
end Go.Proofs.Ytlmpndmceiihaaa
