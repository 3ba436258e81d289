/-
  The walks of vint.Read and vint.ReadInt at a place within the bytes.
-/
import Derived.Test.YtbinnpadmajgpaaVI
namespace Go.Proofs.Ytbinnpadmajgpaa.V
open Go.RowKit
set_option linter.unusedVariables false

theorem hide {p : Prop} (h : p) : Hid p := h

set_option maxHeartbeats 1000000 in
theorem Read_short (w : World) (a : Option Addr) (len cap : Nat) (l : List Int) (t : Nat) (h : Has w a len cap l) (hb : len ≤ 1099511627776) (ht : t ≤ len) (hf : fs (l.drop t) = 0) :
    Calls Try.prog 26 #[.slice a len cap, .int .i64 t] w fun e w' => e = .returned (.tuple #[.int .u64 0, .int .i64 0, .int .i64 7]) ∧ Below w.heap.size w w' := by
  have h2 := h.le
  have h3 := h.capb
  unfold maxLen at h3
  have ht' : (t : Int) ≤ len := by omega
  by_cases hct : cap = t
  · subst hct
    have HF := hide (first_any w a 0 0 [] (h.cut0 cap) (by omega))
    clear h hf
    go_enter Try.func26, Try.ntmps26
    go_wp2_with (go_at_call 39; refine HF.out.mono ?_; rintro e w' ⟨rfl, rfl⟩)
    go_ret3
    exact ⟨rfl, Below.refl _ _⟩
  · have F := first_any w _ _ _ _ (h.cut t ht) (by omega)
    rw [hf] at F
    have HF := hide F
    clear F h hf
    go_enter Try.func26, Try.ntmps26
    go_wp2_with (go_at_call 39; refine HF.out.mono ?_; rintro e w' ⟨rfl, rfl⟩)
    go_ret3
    exact ⟨rfl, Below.refl _ _⟩

set_option maxHeartbeats 1000000 in
theorem Read_ok (w : World) (a : Option Addr) (len cap : Nat) (l : List Int) (t : Nat) (h : Has w a len cap l) (hb : len ≤ 1099511627776) (ht : t ≤ len) (k : Nat) (hf : fs (l.drop t) = k + 1) (hg : good ((l.drop t).take (k + 1))) :
    Calls Try.prog 26 #[.slice a len cap, .int .i64 t] w fun e w' => e = .returned (.tuple #[.int .u64 (dec ((l.drop t).take (k + 1))), .int .i64 ((t : Int) + ((k : Int) + 1)), .int .i64 0]) ∧ Below w.heap.size w w' := by
  have h2 := h.le
  have h3 := h.capb
  unfold maxLen at h3
  have ht' : (t : Int) ≤ len := by omega
  have hk : t + (k + 1) ≤ len := by
    have := fs_le (l.drop t)
    rw [List.length_drop, h.hlen, hf] at this
    omega
  have hct : ¬ cap = t := by omega
  have F := first_any w _ _ _ _ (h.cut t ht) (by omega)
  have J := join_good w _ _ _ _ ((h.cut t ht).front (k + 1) (by omega)) (by omega) (by omega) hg
  rw [hf] at F
  have HF := hide F
  have HJ := hide J
  clear F h hf J hg
  go_enter Try.func26, Try.ntmps26
  go_wp2_with (first
    | (go_at_call 39; refine HF.out.mono ?_; rintro e w' ⟨rfl, rfl⟩)
    | (go_at_call 40; refine HJ.out.mono ?_; rintro e w1 ⟨rfl, B1⟩))
  go_ret3
  exact ⟨rfl, B1⟩

set_option maxHeartbeats 1000000 in
theorem Read_vint (w : World) (a : Option Addr) (len cap : Nat) (l : List Int) (t : Nat) (h : Has w a len cap l) (hb : len ≤ 1099511627776) (ht : t ≤ len) (k : Nat) (hf : fs (l.drop t) = k + 1) (hg : ¬ good ((l.drop t).take (k + 1))) :
    Calls Try.prog 26 #[.slice a len cap, .int .i64 t] w fun e w' => e = .returned (.tuple #[.int .u64 0, .int .i64 0, .int .i64 10]) ∧ Below w.heap.size w w' := by
  have h2 := h.le
  have h3 := h.capb
  unfold maxLen at h3
  have ht' : (t : Int) ≤ len := by omega
  have hk : t + (k + 1) ≤ len := by
    have := fs_le (l.drop t)
    rw [List.length_drop, h.hlen, hf] at this
    omega
  have hct : ¬ cap = t := by omega
  have F := first_any w _ _ _ _ (h.cut t ht) (by omega)
  have J := join_bad w _ _ _ _ ((h.cut t ht).front (k + 1) (by omega)) (by omega) (by omega) hg
  rw [hf] at F
  have HF := hide F
  have HJ := hide J
  clear F h hf J hg
  go_enter Try.func26, Try.ntmps26
  go_wp2_with (first
    | (go_at_call 39; refine HF.out.mono ?_; rintro e w' ⟨rfl, rfl⟩)
    | (go_at_call 40; refine HJ.out.mono ?_; rintro e w1 ⟨rfl, B1⟩))
  go_ret3
  exact ⟨rfl, B1⟩
end Go.Proofs.Ytbinnpadmajgpaa.V
