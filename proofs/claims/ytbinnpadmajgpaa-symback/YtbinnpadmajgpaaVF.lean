/-
  The walks of vint.Put, vint.PutInt, and of the reference's Put, PutInt, Size.
-/
import Derived.Test.YtbinnpadmajgpaaVE
namespace Go.Proofs.Ytbinnpadmajgpaa.V
open Go.RowKit
set_option linter.unusedVariables false

set_option maxHeartbeats 400000 in
theorem Put_any (w : World) (a : Option Addr) (len cap : Nat) (l : List Int) (n : Int) (h : Has w a len cap l) (hb : len ≤ 1099511627776) (h0 : 0 ≤ n) (h1 : n < 18446744073709551616) :
    Calls Try.prog 22 #[.slice a len cap, .int .u64 n] w (Ret w (l ++ enc n.toNat)) := by
  go_enter Try.func22, Try.ntmps22
  go_wp2_with (go_at_call 35; refine (put_u _ _ _ _ _ _ h hb h0 h1).mono ?_; rintro e w' ⟨a', n', cap', rfl, hh, hB, hO⟩)
  go_ret
  exact ⟨a', n', cap', rfl, hh, hB, hO⟩
end Go.Proofs.Ytbinnpadmajgpaa.V
