/-
  The walks of bits.Len64 and vint.Size: how many bits, and how many bytes, a number has.
-/
import Derived.Test.YtbinnpadmajgpaaChecked
import Derived.Test.YtbinnpadmajgpaaVNum
import Derived.WalkKit
import Derived.WalkLawsBesides
namespace Go.Proofs.Ytbinnpadmajgpaa.V
open Go.RowKit
set_option linter.unusedVariables false

theorem w64 (n : Int) (h : -9223372036854775808 ≤ n ∧ n ≤ 9223372036854775807) : wrap64 n = n := by unfold wrap64; omega
theorem len_end (x : Int) (D : Int) (d k : Nat) (t : Nat) (K : Int) (hK : K = k) (hD : D = d) (h0 : 0 ≤ x) (hk : k ≤ 56) (hd : d = 2 ^ k) (hpos : 0 < k → (d : Int) ≤ x) (hb : Bl ((x / D).toNat) t) :
    IsLen x (wrap64 (K + wrap64 t)) := by
  subst hK hD
  have ht : t ≤ 8 := hb.1
  rw [w64 (t : Int) (by omega), w64 _ (by omega)]
  exact isLen_of x d k t h0 hk hd hpos hb
theorem len_end0 (x : Int) (t : Nat) (h0 : 0 ≤ x) (hb : Bl x.toNat t) : IsLen x (wrap64 (wrap64 t)) := by
  have h := len_end x 1 1 0 t 0 rfl rfl h0 (by omega) rfl (fun h => by omega) (by simpa using hb)
  simpa using h

set_option maxRecDepth 100000 in
set_option maxHeartbeats 1000000 in
theorem len64_any (x : Int) (w : World) (h0 : 0 ≤ x) (h1 : x < 18446744073709551616) :
    Calls Try.prog 61 #[.int .u64 x] w fun e w' => ∃ n : Int, e = .returned (.int .i64 n) ∧ w' = w ∧ IsLen x n := by
  go_enter Try.func61, Try.ntmps61
  go_wp2
  all_goals go_ret
  all_goals refine ⟨_, rfl, rfl, ?_⟩
  · refine len_end x 72057594037927936 72057594037927936 56 _ 56 rfl rfl h0 (by omega) (by decide) (by omega) ?_
    rw [show x / 72057594037927936 = x / 4294967296 / 65536 / 256 by omega]; exact tab _ _
  · refine len_end x 281474976710656 281474976710656 48 _ 48 rfl rfl h0 (by omega) (by decide) (by omega) ?_
    rw [show x / 281474976710656 = x / 4294967296 / 65536 by omega]; exact tab _ _
  · refine len_end x 1099511627776 1099511627776 40 _ 40 rfl rfl h0 (by omega) (by decide) (by omega) ?_
    rw [show x / 1099511627776 = x / 4294967296 / 256 by omega]; exact tab _ _
  · refine len_end x 4294967296 4294967296 32 _ 32 rfl rfl h0 (by omega) (by decide) (by omega) ?_
    exact tab _ _
  · refine len_end x 16777216 16777216 24 _ 24 rfl rfl h0 (by omega) (by decide) (by omega) ?_
    rw [show x / 16777216 = x / 65536 / 256 by omega]; exact tab _ _
  · refine len_end x 65536 65536 16 _ 16 rfl rfl h0 (by omega) (by decide) (by omega) ?_
    exact tab _ _
  · refine len_end x 256 256 8 _ 8 rfl rfl h0 (by omega) (by decide) (by omega) ?_
    exact tab _ _
  · exact len_end0 x _ h0 (tab _ _)

set_option maxHeartbeats 400000 in
theorem size_any (x : Int) (w : World) (h0 : 0 ≤ x) (h1 : x < 18446744073709551616) :
    Calls Try.prog 49 #[.int .u64 x] w fun e w' => e = .returned (.int .i64 (sz x.toNat)) ∧ w' = w := by
  go_enter Try.func49, Try.ntmps49
  go_wp2_with (go_at_call 61; refine (len64_any _ _ h0 h1).mono ?_; rintro e w' ⟨n, rfl, rfl, hn⟩; have hn0 : 0 ≤ n := hn.1; have hn1 : n ≤ 64 := hn.2.1)
  all_goals go_ret
  all_goals have hs := sz_of_len x.toNat n (by rwa [Int.toNat_of_nonneg h0])
  all_goals refine ⟨congrArg (fun z => Ending.returned (Value.int .i64 z)) ?_, rfl⟩
  all_goals rw [← hs]
  all_goals omega
end Go.Proofs.Ytbinnpadmajgpaa.V
