/-
  The walks of vint.PutBytes (what is not too long) and of works.
-/
import Derived.Test.YthdgkkingajgnaaF
namespace Go.Proofs.Ythdgkkingajgnaa
open Go.RowKit
set_option linter.unusedVariables false

/-- A slice and the number 0 come out. -/
def Ret2 (w : World) (l : List Int) (e : Ending) (w' : World) : Prop :=
  ∃ a n cap, e = .returned (.tuple #[.slice a n cap, .int .i64 0]) ∧ Has w' a n cap l ∧ Below w.heap.size w w'

set_option maxHeartbeats 400000 in
theorem PutBytes_any (w : World) (a : Option Addr) (len cap : Nat) (l : List Int) (h : Has w a len cap l) (hb : len ≤ 1099511627776) (ax : Option Addr) (lx cx : Nat) (x : List Int) (hx : Has w ax lx cx x) (hxb : lx ≤ 65536) :
    Calls Try.prog 23 #[.slice a len cap, .slice ax lx cx] w (Ret2 w (l ++ enc lx ++ x)) := by
  have hlb : (lx : Int) ≤ 65536 := by omega
  have hn := h.hlen
  have hz := sz_range lx
  have hel := enc_length lx
  have hbl := h.bytes
  have hbx := hx.bytes
  have hbe := enc_bytes lx (by omega)
  have Hp : Hid (Calls Try.prog 12 #[.slice a len cap, .int .u64 lx] w (Ret w (l ++ enc lx))) := by
    have := Put_any w a len cap l lx h hb (by omega) (by omega)
    rwa [Int.toNat_natCast] at this
  have Hl : Hid (l.length = len ∧ (enc lx).length = sz lx) := ⟨hn, hel⟩
  clear hn hel h
  go_enter Try.func23, Try.ntmps23
  go_wp2_with (first
    | (go_at_call 12; refine Hp.out.mono ?_; rintro e w1 ⟨a1, n1, c1, rfl, H1, B1, O1⟩)
    | (at_builtin; refine wpList_app rfl (.tmp 13) (.tmp 14) rfl w.heap.size _ n1 (l ++ enc lx) rfl O1 ax lx cx x rfl (hx.kept B1 (Nat.le_refl _)) ?c1 ?c2 ?_))
  case c1 => have := H1.hlen; rw [List.length_append, Hl.out.1, Hl.out.2] at this; omega
  case c2 => exact B1.size
  intro v2 w2 O2 G2
  have B2 : Below w.heap.size w w2 := B1.grown G2 B1.size (fun k hk => (O1.lt k hk).1)
  obtain ⟨a2, c2, hv, H2⟩ := has_of_owns (l := l ++ enc lx ++ x) (by simpa using O2) (by
    intro y hy
    rcases List.mem_append.1 hy with h | h
    · rcases List.mem_append.1 h with h | h
      · exact hbl y h
      · exact hbe y h
    · exact hbx y h)
  rw [hv]
  clear O2 G2 H1 O1 hv
  go_wp2
  go_ret2
  exact ⟨a2, _, c2, rfl, H2, B2⟩

theorem same_yes (w : World) (a a' : Option Addr) (len len' cap cap' : Nat) (l l' : List Int) (h : Has w a len cap l) (h' : Has w a' len' cap' l') (e : l = l') :
    Calls Try.prog 11 #[.slice a len cap, .slice a' len' cap'] w fun e w' => e = .returned (.bool true) ∧ w' = w := by
  have := same_any w a a' len len' cap cap' l l' h h'
  rwa [show decide (l = l') = true by simpa using e] at this

set_option maxHeartbeats 1000000 in
theorem works_any (w : World) : Calls Try.prog 18 #[] w fun e w' => e = .returned (.bool true) ∧ Below w.heap.size w w' := by
  have h78 : Has (w.alloc (.cells #[.int .u8 7, .int .u8 8] 5)) (some ⟨w.heap.size, 0, none⟩) 2 2 [7, 8] := has_lit w [7, 8] (by decide) (by unfold maxLen; decide)
  go_enter Try.func18, Try.ntmps18
  go_wp2_with fail
  refine (PutBytes_any _ none 0 0 [] (has_nil _) (by omega) _ 2 2 [7, 8] h78 (by omega)).mono ?_
  rintro e w1 ⟨a1, n1, c1, rfl, H1, B1⟩
  go_wp2_with fail
  refine (Put_any _ none 0 0 [] 300 (has_nil _) (by omega) (by omega) (by omega)).mono ?_
  rintro e w2 ⟨a2, n2, c2, rfl, H2, B2, -⟩
  have h172 : Has (w2.alloc (.cells #[.int .u8 172, .int .u8 2] 5)) (some ⟨w2.heap.size, 0, none⟩) 2 2 [172, 2] := has_lit w2 [172, 2] (by decide) (by unfold maxLen; decide)
  go_wp2_with fail
  refine (same_yes _ _ _ _ _ _ _ _ _ (H2.kept ((Below.refl _ _).alloc (Nat.le_refl _) _) (Nat.le_refl _)) h172 (by decide)).mono ?_
  rintro e w3 ⟨rfl, hw3⟩
  have B3 : Below w2.heap.size w2 w3 := by rw [hw3]; exact (Below.refl _ _).alloc (Nat.le_refl _) _
  clear hw3 h172 H2
  go_wp2_with fail
  refine (PutInt_any _ none 0 0 [] (-1) (has_nil _) (by omega) (by omega) (by omega)).mono ?_
  rintro e w4 ⟨a4, n4, c4, rfl, H4, B4, -⟩
  have h1 : Has (w4.alloc (.cells #[.int .u8 1] 5)) (some ⟨w4.heap.size, 0, none⟩) 1 1 [1] := has_lit w4 [1] (by decide) (by unfold maxLen; decide)
  go_wp2_with fail
  refine (same_yes _ _ _ _ _ _ _ _ _ (H4.kept ((Below.refl _ _).alloc (Nat.le_refl _) _) (Nat.le_refl _)) h1 (by decide)).mono ?_
  rintro e w5 ⟨rfl, hw5⟩
  have B5 : Below w4.heap.size w4 w5 := by rw [hw5]; exact (Below.refl _ _).alloc (Nat.le_refl _) _
  clear hw5 h1 H4
  have h278 : Has (w5.alloc (.cells #[.int .u8 2, .int .u8 7, .int .u8 8] 5)) (some ⟨w5.heap.size, 0, none⟩) 3 3 [2, 7, 8] := has_lit w5 [2, 7, 8] (by decide) (by unfold maxLen; decide)
  have H5 : Has w5 a1 n1 c1 ([] ++ enc 2 ++ [7, 8]) := (((H1.kept B2 (Nat.le_refl _)).kept B3 (Nat.le_refl _)).kept B4 (Nat.le_refl _)).kept B5 (Nat.le_refl _)
  clear H1
  go_wp2_with fail
  refine (same_yes _ _ _ _ _ _ _ _ _ (H5.kept ((Below.refl _ _).alloc (Nat.le_refl _) _) (Nat.le_refl _)) h278 (by decide)).mono ?_
  rintro e w6 ⟨rfl, hw6⟩
  have B6 : Below w5.heap.size w5 w6 := by rw [hw6]; exact (Below.refl _ _).alloc (Nat.le_refl _) _
  clear hw6 h278 H5
  go_wp2
  go_ret
  refine ⟨rfl, ?_⟩
  have b0 : Below w.heap.size w (w.alloc (.cells #[.int .u8 7, .int .u8 8] 5)) := (Below.refl _ _).alloc (Nat.le_refl _) _
  have s1 := b0.size
  have b1 := b0.trans (B1.mono s1)
  have b2 := b1.trans (B2.mono b1.size)
  have b3 := b2.trans (B3.mono b2.size)
  have b4 := b3.trans (B4.mono b3.size)
  have b5 := b4.trans (B5.mono b4.size)
  exact b5.trans (B6.mono b5.size)
end Go.Proofs.Ythdgkkingajgnaa
