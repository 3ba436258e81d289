/-
  The walks of vint.Read and vint.ReadInt at a place within the bytes.
-/
import Derived.Test.YthdgkkingajgnaaI
namespace Go.Proofs.Ythdgkkingajgnaa
open Go.RowKit
set_option linter.unusedVariables false

theorem hide {p : Prop} (h : p) : Hid p := h

set_option maxHeartbeats 1000000 in
theorem Read_short (w : World) (a : Option Addr) (len cap : Nat) (l : List Int) (t : Nat) (h : Has w a len cap l) (hb : len ≤ 1099511627776) (ht : t ≤ len) (hf : fs (l.drop t) = 0) :
    Calls Try.prog 19 #[.slice a len cap, .int .i64 t] w fun e w' => e = .returned (.tuple #[.int .u64 0, .int .i64 0, .int .i64 7]) ∧ Below w.heap.size w w' := by
  have h2 := h.le
  have h3 := h.capb
  unfold maxLen at h3
  have ht' : (t : Int) ≤ len := by omega
  by_cases hct : cap = t
  · subst hct
    have HF := hide (first_any w a 0 0 [] (h.cut0 cap) (by omega))
    clear h hf
    go_enter Try.func19, Try.ntmps19
    go_wp2_with (go_at_call 30; refine HF.out.mono ?_; rintro e w' ⟨rfl, rfl⟩)
    go_ret3
    exact ⟨rfl, Below.refl _ _⟩
  · have F := first_any w _ _ _ _ (h.cut t ht) (by omega)
    rw [hf] at F
    have HF := hide F
    clear F h hf
    go_enter Try.func19, Try.ntmps19
    go_wp2_with (go_at_call 30; refine HF.out.mono ?_; rintro e w' ⟨rfl, rfl⟩)
    go_ret3
    exact ⟨rfl, Below.refl _ _⟩

set_option maxHeartbeats 1000000 in
theorem Read_ok (w : World) (a : Option Addr) (len cap : Nat) (l : List Int) (t : Nat) (h : Has w a len cap l) (hb : len ≤ 1099511627776) (ht : t ≤ len) (k : Nat) (hf : fs (l.drop t) = k + 1) (hg : good ((l.drop t).take (k + 1))) :
    Calls Try.prog 19 #[.slice a len cap, .int .i64 t] w fun e w' => e = .returned (.tuple #[.int .u64 (dec ((l.drop t).take (k + 1))), .int .i64 ((t : Int) + ((k : Int) + 1)), .int .i64 0]) ∧ Below w.heap.size w w' := by
  have h2 := h.le
  have h3 := h.capb
  unfold maxLen at h3
  have ht' : (t : Int) ≤ len := by omega
  have hk : t + (k + 1) ≤ len := by
    have := fs_le (l.drop t)
    rw [List.length_drop, h.hlen, hf] at this
    omega
  have hct : ¬ cap = t := by omega
  have F := first_any w _ _ _ _ (h.cut t ht) (by omega)
  have J := join_good w _ _ _ _ ((h.cut t ht).front (k + 1) (by omega)) (by omega) (by omega) hg
  rw [hf] at F
  have HF := hide F
  have HJ := hide J
  clear F h hf J hg
  go_enter Try.func19, Try.ntmps19
  go_wp2_with (first
    | (go_at_call 30; refine HF.out.mono ?_; rintro e w' ⟨rfl, rfl⟩)
    | (go_at_call 31; refine HJ.out.mono ?_; rintro e w1 ⟨rfl, B1⟩))
  go_ret3
  exact ⟨rfl, B1⟩

set_option maxHeartbeats 1000000 in
theorem Read_vint (w : World) (a : Option Addr) (len cap : Nat) (l : List Int) (t : Nat) (h : Has w a len cap l) (hb : len ≤ 1099511627776) (ht : t ≤ len) (k : Nat) (hf : fs (l.drop t) = k + 1) (hg : ¬ good ((l.drop t).take (k + 1))) :
    Calls Try.prog 19 #[.slice a len cap, .int .i64 t] w fun e w' => e = .returned (.tuple #[.int .u64 0, .int .i64 0, .int .i64 10]) ∧ Below w.heap.size w w' := by
  have h2 := h.le
  have h3 := h.capb
  unfold maxLen at h3
  have ht' : (t : Int) ≤ len := by omega
  have hk : t + (k + 1) ≤ len := by
    have := fs_le (l.drop t)
    rw [List.length_drop, h.hlen, hf] at this
    omega
  have hct : ¬ cap = t := by omega
  have F := first_any w _ _ _ _ (h.cut t ht) (by omega)
  have J := join_bad w _ _ _ _ ((h.cut t ht).front (k + 1) (by omega)) (by omega) (by omega) hg
  rw [hf] at F
  have HF := hide F
  have HJ := hide J
  clear F h hf J hg
  go_enter Try.func19, Try.ntmps19
  go_wp2_with (first
    | (go_at_call 30; refine HF.out.mono ?_; rintro e w' ⟨rfl, rfl⟩)
    | (go_at_call 31; refine HJ.out.mono ?_; rintro e w1 ⟨rfl, B1⟩))
  go_ret3
  exact ⟨rfl, B1⟩

theorem unzig_range (n : Nat) (h : n < 18446744073709551616) : -9223372036854775808 ≤ unzig n ∧ unzig n ≤ 9223372036854775807 := by
  unfold unzig; split <;> omega

set_option maxHeartbeats 1000000 in
theorem ReadInt_ok (w : World) (a : Option Addr) (len cap : Nat) (l : List Int) (t : Nat) (h : Has w a len cap l) (hb : len ≤ 1099511627776) (ht : t ≤ len) (k : Nat) (hf : fs (l.drop t) = k + 1) (hg : good ((l.drop t).take (k + 1))) :
    Calls Try.prog 21 #[.slice a len cap, .int .i64 t] w fun e w' => e = .returned (.tuple #[.int .i64 (unzig (dec ((l.drop t).take (k + 1)))), .int .i64 ((t : Int) + ((k : Int) + 1)), .int .i64 0]) ∧ Below w.heap.size w w' := by
  have hN := num_of_fs (l.drop t) (by omega)
  rw [hf] at hN
  have hdb := dec_bound _ hg (getD_bytes (fun x hx => h.bytes x (List.mem_of_mem_drop (List.mem_of_mem_take hx))) _).1 hN.pos
  have HR := hide (Read_ok w a len cap l t h hb ht k hf hg)
  generalize dec ((l.drop t).take (k + 1)) = d at *
  clear hN h hf hg
  go_enter Try.func21, Try.ntmps21
  go_wp2_with (first
    | (go_at_call 19; refine HR.out.mono ?_; rintro e w1 ⟨rfl, B1⟩)
    | (go_at_call 32; refine (unfold_any _ _ (by omega) (by omega)).mono ?_; rintro e w' ⟨rfl, rfl⟩))
  go_ret3
  exact ⟨rfl, B1⟩

set_option maxHeartbeats 1000000 in
theorem ReadInt_err (w : World) (v : Value) (t : Int) (n : Int) (hn : n ≠ 0) (HR : Hid (Calls Try.prog 19 #[v, .int .i64 t] w fun e w' => e = .returned (.tuple #[.int .u64 0, .int .i64 0, .int .i64 n]) ∧ Below w.heap.size w w')) :
    Calls Try.prog 21 #[v, .int .i64 t] w fun e w' => e = .returned (.tuple #[.int .i64 0, .int .i64 0, .int .i64 n]) ∧ Below w.heap.size w w' := by
  have hn' : (n != 0) = true := by rw [bne_iff_ne]; exact hn
  go_enter Try.func21, Try.ntmps21
  go_wp2_with (go_at_call 19; refine HR.out.mono ?_; rintro e w1 ⟨rfl, B1⟩)
  go_ret3
  exact ⟨rfl, B1⟩
end Go.Proofs.Ythdgkkingajgnaa
