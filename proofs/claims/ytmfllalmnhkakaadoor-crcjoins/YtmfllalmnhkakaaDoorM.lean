/-
  The walks of the reference's times (a map of bits).
-/
import Derived.Test.YtmfllalmnhkakaaDoorL
namespace Go.Proofs.YtmfllalmnhkakaaDoor
open Go.RowKit
set_option linter.unusedVariables false

theorem info51 : (Tryd.prog.info? 51).map (·.size) = some 32 := by kernel_rfl
theorem rbit {r k : Nat} : (((r / 2 ^ k : Nat) : Int) % 2 == 1) = decide (r / 2 ^ k % 2 = 1) := by
  rw [Bool.eq_iff_iff, beq_iff_eq, decide_eq_true_iff]
  omega

set_option maxHeartbeats 1000000 in
theorem rtimes_any (F : Nat → Nat) (hF : Mat F) (r : Nat) (hr : r < 4294967296) (w : World) :
    Calls Tryd.prog 32 #[.agg (arr .u32 32 (fun j => F (2 ^ j))), .int .u32 (r : Int)] w fun e w' => e = .returned (.int .u32 (F r : Nat)) ∧ Below w.heap.size w w' := by
  have hA := arr_new w 51 .u32 32 (fun j => F (2 ^ j))
  have hB : Below w.heap.size w (w.alloc (.cells (arr .u32 32 (fun j => F (2 ^ j))) 51)) := (Below.refl _ _).alloc (Nat.le_refl _) _
  have hall := hide (rt_all hF hr)
  generalize harr : arr .u32 32 (fun j => F (2 ^ j)) = A at hA hB ⊢
  have hcell : Hid (∀ k, k < 32 → (w.alloc (.cells A 51)).cell? ⟨w.heap.size, k, none⟩ = some (.int .u32 ((F (2 ^ k) : Nat) : Int))) := fun k hk => by
    have := Arr.cell (w := w.alloc (.cells A 51)) (g := w.heap.size) (ty := 51) (t := .u32) (n := 32) (f := fun j => F (2 ^ j)) (by unfold Arr; rw [harr]; exact heap_alloc_new w _) k hk
    exact this
  clear hA harr
  go_enter Tryd.func32, Tryd.ntmps32
  go_wp2
  go_loop [1, 5, 6] (fun v o i => ∃ k y o' : Nat, k ≤ 32 ∧ i = .int .i64 k ∧ v = .int .u32 (y : Int) ∧ o = .int .u32 (o' : Int) ∧ o' < 4294967296 ∧ Hid (y = r / 2 ^ k) ∧ Hid (o' = Rt F r k)) (fun _ _ i => 32 - (intOf i).toNat)
  case atStart => exact ⟨0, r, 0, by omega, rfl, rfl, rfl, by decide, by show r = r / 2 ^ 0; simp, rfl⟩
  case round =>
    obtain ⟨k, y, o', hk, rfl, rfl, rfl, ho', e1, e2⟩ := hrel
    have hylt : y < 4294967296 := by rw [e1.out]; exact Nat.lt_of_le_of_lt (Nat.div_le_self _ _) hr
    by_cases hk32 : k < 32
    · have hc := hcell.out k hk32
      have hFk : F (2 ^ k) < 4294967296 := hF.lt _ (by have : (2 : Nat) ^ k ≤ 2 ^ 31 := Nat.pow_le_pow_right (by decide) (by omega)
                                                       omega)
      have hnew : Hid (y / 2 = r / 2 ^ (k + 1)) := by
        show y / 2 = r / 2 ^ (k + 1)
        rw [e1.out, Nat.div_div_eq_div_mul, Nat.pow_succ]
      have hrt : Hid (Rt F r (k + 1) = Rt F r k ^^^ (if r / 2 ^ k % 2 = 1 then F (2 ^ k) else 0)) := rfl
      generalize F (2 ^ k) = z at hc hFk hrt
      go_wp2
      · have h1 : ((y : Int) % 2 == 1) = true := by assumption
        have h1' : r / 2 ^ k % 2 = 1 := by rw [← e1.out]; have := beq_iff_eq.1 h1; omega
        go_round
        case rel => exact ⟨k + 1, y / 2, o' ^^^ z, by omega, by go_num, v32 (by omega), v32 (xor32 ho' hFk), xor_lt ho' hFk, hnew, by show o' ^^^ z = _; rw [hrt.out, if_pos h1', e2.out]⟩
        case measure => simp [intOf]; omega
      · have h1 : ((y : Int) % 2 == 1) = false := by assumption
        have h1' : ¬ r / 2 ^ k % 2 = 1 := by rw [← e1.out]; have := beq_eq_false_iff_ne.1 h1; omega
        go_round
        case rel => exact ⟨k + 1, y / 2, o', by omega, by go_num, v32 (by omega), rfl, ho', hnew, by show o' = _; rw [hrt.out, if_neg h1', e2.out, Nat.xor_zero]⟩
        case measure => simp [intOf]; omega
    · obtain rfl : k = 32 := by omega
      go_wp2
      go_ret
      exact ⟨ret32 (by rw [e2.out, hall.out]), hB⟩
end Go.Proofs.YtmfllalmnhkakaaDoor
