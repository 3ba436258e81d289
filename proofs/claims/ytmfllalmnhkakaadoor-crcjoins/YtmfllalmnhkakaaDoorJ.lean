/-
  What the statements' walks share: shortened bytes; what Read and Open answer, in one form.
-/
import Derived.Test.YtmfllalmnhkakaaDoorI
namespace Go.Proofs.YtmfllalmnhkakaaDoor
open Go.RowKit
set_option linter.unusedVariables false

theorem shorten (w : World) (a0 : Option Addr) (len0 cap0 : Nat) (z0 : List Int) (w0 : IsRow .u8 w a0 len0 cap0 z0) :
    ∃ n l, n ≤ 300 ∧ Has w a0 n cap0 l ∧ ∀ w1, Below w.heap.size w w1 → Calls Tryd.prog 8 #[.slice a0 len0 cap0] w1 fun e w' => e = .returned (.slice a0 n cap0) ∧ w' = w1 := by
  have H0 := has_of_row w0
  refine ⟨min len0 300, _, by omega, H0.front _ (by omega), fun w1 B1 => ?_⟩
  exact short_any w1 a0 len0 cap0 _ (H0.kept B1 (Nat.le_refl _))

/-- Some bytes and a bool come out. -/
def Opn (w : World) (m : List Int) (ok : Bool) (e : Ending) (w' : World) : Prop := ∃ a n cap, e = .returned (.tuple #[.slice a n cap, .bool ok]) ∧ Has w' a n cap m ∧ Below w.heap.size w w'
theorem opn_none {w : World} {e : Ending} {w' : World} (h : None2 w e w') : Opn w [] false e w' := ⟨none, 0, 0, h.1, has_nil _, h.2⟩
theorem opn_some {w : World} {l : List Int} {e : Ending} {w' : World} (h : Some2 w l e w') : Opn w l true e w' := h

theorem open_both (l : List Int) (hl : l.length ≤ 1099511627776) : ∃ m ok,
    (∀ w a n cap, Has w a n cap l → Tab w → Calls Tryd.prog 18 #[.slice a n cap] w (Opn w m ok)) ∧ (∀ w a n cap, Has w a n cap l → Calls Tryd.prog 19 #[.slice a n cap] w (Opn w m ok)) := by
  by_cases h4 : l.length < 4
  · exact ⟨[], false, fun w a n cap h ht => (open_short w a n cap l h (by have := h.hlen; omega)).mono fun e w' h => opn_none h, fun w a n cap h => (ropen_short w a n cap l h (by have := h.hlen; omega)).mono fun e w' h => opn_none h⟩
  · obtain ⟨k, hk⟩ : ∃ k, l.length = k + 4 := ⟨l.length - 4, by omega⟩
    by_cases he : numK (l.drop k) 4 = more 0 (l.take k)
    · exact ⟨_, true, fun w a n cap h ht => (open_any w a n cap l h (by have := h.hlen; omega) k (by have := h.hlen; omega) ht he).mono fun e w' h => opn_some h, fun w a n cap h => (ropen_any w a n cap l h (by have := h.hlen; omega) k (by have := h.hlen; omega) he).mono fun e w' h => opn_some h⟩
    · exact ⟨[], false, fun w a n cap h ht => (open_not w a n cap l h k (by have := h.hlen; omega) ht he).mono fun e w' h => opn_none h, fun w a n cap h => (ropen_not w a n cap l h k (by have := h.hlen; omega) he).mono fun e w' h => opn_none h⟩

theorem read_both (l : List Int) : ∃ x n : Int,
    (∀ w a m cap, Has w a m cap l → Calls Tryd.prog 16 #[.slice a m cap] w fun e w' => e = .returned (.tuple #[.int .u32 x, .int .i64 n]) ∧ w' = w) ∧
    (∀ w a m cap, Has w a m cap l → Calls Tryd.prog 17 #[.slice a m cap] w fun e w' => e = .returned (.tuple #[.int .u32 x, .int .i64 n]) ∧ Below w.heap.size w w') := by
  by_cases h4 : l.length < 4
  · exact ⟨0, 7, fun w a m cap h => read_short w a m cap l h (by have := h.hlen; omega), fun w a m cap h => (rread_short w a m cap l h (by have := h.hlen; omega)).mono fun e w' ⟨h1, h2⟩ => ⟨h1, by rw [h2]; exact Below.refl _ _⟩⟩
  · exact ⟨_, 0, fun w a m cap h => read_any w a m cap l h (by have := h.hlen; omega), fun w a m cap h => rread_any w a m cap l h (by have := h.hlen; omega)⟩
end Go.Proofs.YtmfllalmnhkakaaDoor
