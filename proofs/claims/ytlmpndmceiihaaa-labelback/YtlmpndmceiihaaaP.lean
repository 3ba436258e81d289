/-
  SortStableFunc of fewer than 20 labels.
-/
import Derived.Test.YtlmpndmceiihaaaO
namespace Go.Proofs.Ytlmpndmceiihaaa
open Go.RowKit Go.Shelf Go.Lib
set_option linter.unusedVariables false
set_option linter.unusedSimpArgs false

def cmpN (x y : Lab) : Int := s3 x.1 y.1
theorem insert_any (blk cap a b : Nat) (d : Array Lab) (w : World) (hH : Sort.HoldsK encL 2 w blk 0 d) (hblk : blk < w.heap.size) (hab : a ≤ b) (hb : b ≤ d.size) (hsz : d.size < 4611686018427387904) :
    Calls Try.prog 49 #[.slice (some ⟨blk, 0, none⟩) d.size cap, .int .i64 a, .int .i64 b, .func (.func 32) #[] #[]] w fun e w' =>
      e = .returned (.tuple #[]) ∧ ∃ n os, w' = sortWorldK encL 2 w blk 0 n (Sort.insertionSort (ltOf cmpN) d a b) os :=
  AnyQ.insertionSortCmpFunc Try.insertLab 2 isAgg39 sizeOf39 encL encL_len encL_one cmpN 32 #[] blk 0 cap a b d w (enters_of Try.func32 (by kernel_rfl) rfl) (byName_lays blk 0 d.size w) hH hblk hab hb hsz

set_option maxHeartbeats 2000000 in
theorem stable_any (blk cap : Nat) (d : Array Lab) (w : World) (hH : Sort.HoldsK encL 2 w blk 0 d) (hblk : blk < w.heap.size) (hsz : d.size < 20) :
    Calls Try.prog 44 #[.slice (some ⟨blk, 0, none⟩) d.size cap, .int .i64 d.size, .func (.func 32) #[] #[]] w fun e w' =>
      e = .returned (.tuple #[]) ∧ ∃ n os, w' = sortWorldK encL 2 w blk 0 n (Sort.insertionSort (ltOf cmpN) d 0 d.size) os := by
  have hi := hide (insert_any blk cap 0 d.size d w hH hblk (Nat.zero_le _) (Nat.le_refl _) (by omega))
  have j1 : ¬ ((20 : Int) ≤ (d.size : Int)) := by omega
  have j2 : ¬ ((20 : Int) < (d.size : Int)) := by omega
  clear hH
  generalize Sort.insertionSort (ltOf cmpN) d 0 d.size = d2 at hi ⊢
  generalize d.size = m at hi j1 j2 ⊢
  go_enter Try.func44, Try.ntmps44
  go_wp2
  go_loopw [7, 8] (fun x y wr => x = .int .i64 0 ∧ y = .int .i64 20 ∧ wr = w) (fun _ _ _ => 0)
  case atStart => exact ⟨rfl, rfl, rfl⟩
  case round =>
    obtain ⟨rfl, rfl, rfl⟩ := hrel
    go_wp2_with (go_at_call 49; refine hi.out.mono ?_; rintro e W2 ⟨rfl, hW⟩; replace hW := hide hW)
    go_loopw [6] (fun x wr => x = .int .i64 20 ∧ wr = W2) (fun _ _ => 0)
    case atStart => exact ⟨rfl, rfl⟩
    case round =>
      obtain ⟨rfl, rfl⟩ := hrel
      go_wp2
      go_end0
      exact ⟨rfl, hW.out⟩
theorem insert_none (a : Option Addr) (cap : Nat) (w : World) :
    Calls Try.prog 49 #[.slice a 0 cap, .int .i64 0, .int .i64 0, .func (.func 32) #[] #[]] w fun e w' => e = .returned (.tuple #[]) ∧ w' = w := by
  go_enter Try.func49, Try.ntmps49
  go_wp2
  go_loopw [8] (fun x wr => x = .int .i64 1 ∧ wr = w) (fun _ _ => 0)
  case atStart => exact ⟨rfl, rfl⟩
  case round =>
    obtain ⟨rfl, rfl⟩ := hrel
    go_wp2
    go_end0
    exact ⟨rfl, rfl⟩
set_option maxHeartbeats 2000000 in
theorem stable_none (a : Option Addr) (cap : Nat) (w : World) :
    Calls Try.prog 44 #[.slice a 0 cap, .int .i64 0, .func (.func 32) #[] #[]] w fun e w' => e = .returned (.tuple #[]) ∧ w' = w := by
  go_enter Try.func44, Try.ntmps44
  go_wp2
  go_loopw [7, 8] (fun x y wr => x = .int .i64 0 ∧ y = .int .i64 20 ∧ wr = w) (fun _ _ _ => 0)
  case atStart => exact ⟨rfl, rfl, rfl⟩
  case round =>
    obtain ⟨rfl, rfl, rfl⟩ := hrel
    go_wp2_with (go_at_call 49; refine (insert_none _ _ _).mono ?_; rintro e W2 ⟨rfl, hW⟩; subst hW)
    go_loopw [6] (fun x wr => x = .int .i64 20 ∧ wr = W2) (fun _ _ => 0)
    case atStart => exact ⟨rfl, rfl⟩
    case round =>
      obtain ⟨rfl, rfl⟩ := hrel
      go_wp2
      go_end0
      exact ⟨rfl, rfl⟩
theorem sortN_any (blk cap : Nat) (d : Array Lab) (w : World) (hH : Sort.HoldsK encL 2 w blk 0 d) (hblk : blk < w.heap.size) (hsz : d.size < 20) :
    Calls Try.prog 31 #[.slice (some ⟨blk, 0, none⟩) d.size cap, .func (.func 32) #[] #[]] w fun e w' =>
      e = .returned (.tuple #[]) ∧ ∃ n os, w' = sortWorldK encL 2 w blk 0 n (Sort.insertionSort (ltOf cmpN) d 0 d.size) os := by
  have hs := hide (stable_any blk cap d w hH hblk hsz)
  go_enter Try.func31, Try.ntmps31
  go_wp2_with (go_at_call 44; refine hs.out.mono ?_; rintro e W2 ⟨rfl, hW⟩; replace hW := hide hW)
  go_end0
  exact ⟨rfl, hW.out⟩
theorem sortN_none (a : Option Addr) (cap : Nat) (w : World) :
    Calls Try.prog 31 #[.slice a 0 cap, .func (.func 32) #[] #[]] w fun e w' => e = .returned (.tuple #[]) ∧ w' = w := by
  go_enter Try.func31, Try.ntmps31
  go_wp2_with (go_at_call 44; refine (stable_none _ _ _).mono ?_; rintro e W2 ⟨rfl, hW⟩; subst hW)
  go_end0
  exact ⟨rfl, rfl⟩
end Go.Proofs.Ytlmpndmceiihaaa
