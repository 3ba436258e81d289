/-
  Lists of chunks in memory; rise; a list cut into pieces of so many samples.
-/
import Derived.Test.YtmjjedbdedemcaaDoorTQ
namespace Go.Proofs.YtmjjedbdedemcaaDoor
open Go.RowKit
set_option linter.unusedVariables false
set_option linter.unusedSimpArgs false

theorem up_get : ∀ (M : List Smp) (i : Nat), Up M → i + 1 < M.length → (M.getD i noSmp).1 < (M.getD (i + 1) noSmp).1
  | [], i, _, h => by simp at h
  | x :: M, 0, h, hl => by
    cases M with
    | nil => simp at hl
    | cons y M => exact h.1 y (by simp)
  | x :: M, i + 1, h, hl => by simpa using up_get M i h.2 (by simpa using hl)

set_option maxHeartbeats 2000000 in
set_option maxRecDepth 100000 in
theorem rise_up (w : World) (a : Option Addr) (len cap : Nat) (L : List Smp) (h : HasS w a len cap L) (hu : Up L) :
    Calls Tryd.prog 18 #[.slice a len cap] w fun e w' => e = .returned (.bool true) ∧ ∃ m, w' = w.drewN m := by
  have hl := h.hlen
  have hle := h.le
  have hcap := h.capb
  unfold maxLen at hcap
  replace h := hide h
  replace hu := hide hu
  go_enter Tryd.func18, Tryd.ntmps18
  go_wp2_with fail
  go_loopw [3, 6] (fun _ iv wr => ∃ (k d : Nat), k ≤ len ∧ iv = .int .i64 (k : Int) ∧ wr = w.drewN d) (fun _ iv _ => len - (intOf iv).toNat)
  case atStart => exact ⟨0, 0, Nat.zero_le _, rfl, rfl⟩
  case round =>
    obtain ⟨k, d, hk, rfl, rfl⟩ := hrel
    by_cases hkl : k < len
    · obtain ⟨b, off, rfl, hb, hcs⟩ := h.out.cells (by omega)
      have j1 : (k : Int) < (len : Int) := by omega
      by_cases hk0 : k = 0
      · subst hk0
        clear hcs
        generalize hwr : w.drewN d = wr at *
        replace hwr := hide hwr
        have hg0 : decide ((0 : Int) < ((0 : Nat) : Int)) = false := by simp
        go_wp2_with fail
        go_quiet (fail)
        go_wp2_with fail
        go_roundw
        case rel => exact ⟨0 + 1, d + nq, by omega, by go_num, by rw [← hwr.out, World.drewN_drewN]⟩
        case measure => simp [intOf]; omega
      · obtain ⟨p, hp⟩ : ∃ p, k = p + 1 := ⟨k - 1, by omega⟩
        have hlt := up_get L p hu.out (by omega)
        have c0 := (hcs p (by omega)).1
        have c1 := (hcs k (by omega)).1
        rw [← hp] at hlt
        have c0' : (w.drewN d).cell? ⟨b, off + p * 2, none⟩ = some (.int .i64 (L.getD p noSmp).1) := c0
        have c1' : (w.drewN d).cell? ⟨b, off + k * 2, none⟩ = some (.int .i64 (L.getD k noSmp).1) := c1
        have hp' : (k : Int) - 1 = (p : Int) := by omega
        have j2 : (p : Int) < (len : Int) := by omega
        have j3 : (0 : Int) < (k : Int) := by omega
        have j4 : decide ((0 : Int) < (k : Int)) = true := by simp; omega
        have j5 : decide (0 < k) = true := by simp; omega
        generalize (L.getD p noSmp).1 = x0 at *
        generalize (L.getD k noSmp).1 = x1 at *
        replace hp := hide hp
        clear c0 c1 hcs
        generalize hwr : w.drewN d = wr at *
        replace hwr := hide hwr
        go_wp2_with fail
        go_quiet (fail)
        replace hp' := hide hp'
        clear j2 c0' c1'
        have hd : decide (x1 ≤ x0) = false := by simp; omega
        generalize decide (x1 ≤ x0) = dd at *
        subst hd
        go_wp2_with fail
        go_roundw
        case rel => exact ⟨k + 1, d + nq, by omega, by go_num, by rw [← hwr.out, World.drewN_drewN]⟩
        case measure => simp [intOf]; omega
    · obtain rfl : k = len := by omega
      go_wp2_with fail
      go_ret
      exact ⟨rfl, d, rfl⟩
end Go.Proofs.YtmjjedbdedemcaaDoor
