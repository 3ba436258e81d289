/-
  The walks of vint.PutBytes (what is not too long) and of works.
-/
import Derived.Test.YtbinnpadmajgpaaVF
namespace Go.Proofs.Ytbinnpadmajgpaa.V
open Go.RowKit
set_option linter.unusedVariables false

/-- A slice and the number 0 come out. -/
def Ret2 (w : World) (l : List Int) (e : Ending) (w' : World) : Prop :=
  ∃ a n cap, e = .returned (.tuple #[.slice a n cap, .int .i64 0]) ∧ Has w' a n cap l ∧ Below w.heap.size w w'

set_option maxHeartbeats 400000 in
theorem PutBytes_any (w : World) (a : Option Addr) (len cap : Nat) (l : List Int) (h : Has w a len cap l) (hb : len ≤ 1099511627776) (ax : Option Addr) (lx cx : Nat) (x : List Int) (hx : Has w ax lx cx x) (hxb : lx ≤ 65536) :
    Calls Try.prog 38 #[.slice a len cap, .slice ax lx cx] w (Ret2 w (l ++ enc lx ++ x)) := by
  have hlb : (lx : Int) ≤ 65536 := by omega
  have hn := h.hlen
  have hz := sz_range lx
  have hel := enc_length lx
  have hbl := h.bytes
  have hbx := hx.bytes
  have hbe := enc_bytes lx (by omega)
  have Hp : Hid (Calls Try.prog 22 #[.slice a len cap, .int .u64 lx] w (Ret w (l ++ enc lx))) := by
    have := Put_any w a len cap l lx h hb (by omega) (by omega)
    rwa [Int.toNat_natCast] at this
  have Hl : Hid (l.length = len ∧ (enc lx).length = sz lx) := ⟨hn, hel⟩
  clear hn hel h
  go_enter Try.func38, Try.ntmps38
  go_wp2_with (first
    | (go_at_call 22; refine Hp.out.mono ?_; rintro e w1 ⟨a1, n1, c1, rfl, H1, B1, O1⟩)
    | (at_builtin; refine wpList_app rfl (.tmp 13) (.tmp 14) rfl w.heap.size _ n1 (l ++ enc lx) rfl O1 ax lx cx x rfl (hx.kept B1 (Nat.le_refl _)) ?c1 ?c2 ?_))
  case c1 => have := H1.hlen; rw [List.length_append, Hl.out.1, Hl.out.2] at this; omega
  case c2 => exact B1.size
  intro v2 w2 O2 G2
  have B2 : Below w.heap.size w w2 := B1.grown G2 B1.size (fun k hk => (O1.lt k hk).1)
  obtain ⟨a2, c2, hv, H2⟩ := has_of_owns (l := l ++ enc lx ++ x) (by simpa using O2) (by
    intro y hy
    rcases List.mem_append.1 hy with h | h
    · rcases List.mem_append.1 h with h | h
      · exact hbl y h
      · exact hbe y h
    · exact hbx y h)
  rw [hv]
  clear O2 G2 H1 O1 hv
  go_wp2
  go_ret2
  exact ⟨a2, _, c2, rfl, H2, B2⟩

theorem same_yes (w : World) (a a' : Option Addr) (len len' cap cap' : Nat) (l l' : List Int) (h : Has w a len cap l) (h' : Has w a' len' cap' l') (e : l = l') :
    Calls Try.prog 12 #[.slice a len cap, .slice a' len' cap'] w fun e w' => e = .returned (.bool true) ∧ w' = w := by
  have := same_any w a a' len len' cap cap' l l' h h'
  rwa [show decide (l = l') = true by simpa using e] at this
end Go.Proofs.Ytbinnpadmajgpaa.V
